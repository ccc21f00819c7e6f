/- Lemmas of the proofs of this seat, of the parts Gr16, Arnd, Hyj, Hyh, Hyk, Fitm, Dsrt, Insm, Rwc, Trw, Obh, Ins16, Del16, Obg, Insw. Conditions: none. -/
import Derived.Test.YtkgdgnmobahhfaaKaa
import Derived.Test.YtkgdgnmobahhfaaKac
import Derived.Test.YtkgdgnmobahhfaaKab
import Derived.Test.YtkgdgnmobahhfaaShelff
import Derived.Lib.OwnBridge
import Derived.Sort.OwnSortedInts
import Derived.Laws.IdiomCopy
import Derived.Shelf.Spec.SlicesInsert
import Derived.Deep.AppendSrc
section
/- Great of the laws of observations. -/
namespace Go.Proofs.Ytkgdgnmobahhfaa
open Go.RowKit

/-- What the answer of Great says. -/
def G16 (n : Nat) (ts : List (List Int × List Int)) (b : Bool) : Prop := b = false → n ≤ 60 ∧ ∀ j, j < n → (tIn ts j).length ≤ 100 ∧ (tOut ts j).length ≤ 100
def G16E (n : Nat) (ts : List (List Int × List Int)) (w : World) (e : Ending) (w' : World) : Prop := ∃ b, e = .returned (.bool b) ∧ G16 n ts b ∧ Below w.heap.size w w'

set_option linter.unusedSimpArgs false in
set_option linter.unusedVariables false in
set_option maxHeartbeats 2000000 in
set_option maxRecDepth 100000 in
theorem rgreat16 (i : Int) (T : Option Addr) (n c : Nat) (ts : List (List Int × List Int)) (w : World) (hT : Trs w T n ts) :
    Calls Try.prog 15 #[.agg #[.int .i64 i, .slice T n c]] w fun r w' => G16E n ts w r w' := by
  obtain ⟨w0, hw0⟩ : ∃ w0, w0 = w.alloc (.cells #[.int .i64 i, .slice T n c] 24) := ⟨_, rfl⟩
  have hb0 : Below w.heap.size w w0 := by rw [hw0]; exact alloc_below _ _
  have m0 : Bx w0 w.heap.size #[.int .i64 i, .slice T n c] 24 := by rw [hw0]; exact bx_new _ _ _
  have HB0 := Lib.hid hb0
  have HW0 := Lib.hid hw0
  have HT := Lib.hid (hT.below hb0)
  have hn := hT.2.1
  have k1 := m0.cell 1
  simp at k1
  have z1 := k1
  rw [hw0] at z1
  clear hw0 hb0 m0 hT
  by_cases hbig : 60 < n
  · have hbI : (60 : Int) < (n : Int) := by omega
    clear k1
    go_enter Try.func15, Try.ntmps15
    go_wp2
    rw [← HW0.out]
    go_ret
    exact ⟨true, rfl, (fun h => nomatch h), HB0.out⟩
  have hbI : ¬ (60 : Int) < (n : Int) := by omega
  go_enter Try.func15, Try.ntmps15
  go_wp2
  rw [← HW0.out]
  clear z1
  go_loopw [3] (fun v3 wr => ∃ k : Nat, v3 = .int .i64 k ∧ k ≤ n ∧ Hid (∀ j, j < k → (tIn ts j).length ≤ 100 ∧ (tOut ts j).length ≤ 100) ∧ wr = w0) (fun v3 _ => n - (intOf v3).toNat)
  case atStart => exact ⟨0, rfl, Nat.zero_le _, Lib.hid (fun j h => absurd h (Nat.not_lt_zero j)), rfl⟩
  case round =>
    obtain ⟨k, rfl, hk, HP, rfl⟩ := hrel
    by_cases hlt : k < n
    · obtain ⟨b, off, A1, n1, c1, A2, n2, c2, rfl, hgb, j1, j2, _, _, j3, j4⟩ := HT.out.at_ hlt
      have HL1 := Lib.hid j3.1
      have HL2 := Lib.hid j4.1
      clear j3 j4 hgb
      by_cases h1 : 100 < n1
      · have h1I : (100 : Int) < (n1 : Int) := by omega
        go_wp2
        go_ret
        exact ⟨true, rfl, (fun h => nomatch h), HB0.out⟩
      · have h1I : ¬ (100 : Int) < (n1 : Int) := by omega
        by_cases h2 : 100 < n2
        · have h2I : (100 : Int) < (n2 : Int) := by omega
          go_wp2
          go_ret
          exact ⟨true, rfl, (fun h => nomatch h), HB0.out⟩
        · have h2I : ¬ (100 : Int) < (n2 : Int) := by omega
          have HP2 := Lib.hid (show ∀ j, j < k + 1 → (tIn ts j).length ≤ 100 ∧ (tOut ts j).length ≤ 100 from fun j hj => by
            rcases Nat.lt_or_ge j k with h | h
            · exact HP.out j h
            · obtain rfl : j = k := by omega
              rw [HL1.out, HL2.out]; omega)
          go_wp2
          go_roundw
          case rel => exact ⟨k + 1, by go_num, by omega, HP2, by first | rfl | trivial⟩
          case measure => simp [intOf]; omega
    · obtain rfl : k = n := by omega
      go_wp2
      go_ret
      exact ⟨false, rfl, fun _ => ⟨by omega, HP.out⟩, HB0.out⟩
end Go.Proofs.Ytkgdgnmobahhfaa
end

section
/- around of the program: the neighbours that share n inputs. -/
namespace Go.Proofs.Ytkgdgnmobahhfaa
open Go.RowKit

/-- The positions from f to before t share k inputs with the one at p. -/
def Arnd (ss : List Int) (m p : Nat) (k : Int) (f t : Nat) : Prop :=
  f ≤ p ∧ p < t ∧ t ≤ m + 1 ∧ (∀ j, f ≤ j → j < p → k ≤ ss.getD j 0) ∧ (∀ j, p ≤ j → j + 1 < t → k ≤ ss.getD j 0) ∧ (f = 0 ∨ ss.getD (f - 1) 0 < k) ∧ (t = m + 1 ∨ ss.getD (t - 1) 0 < k)

set_option maxHeartbeats 4000000 in
set_option maxRecDepth 100000 in
theorem paround (O S : Option Addr) (n c m d p : Nat) (k : Int) (ss : List Int) (w : World) (hS : Ints w S m ss) (hp : p ≤ m) :
    Calls Try.prog 97 #[.agg #[.slice O n c, .slice S m d], .int .i64 p, .int .i64 k] w fun e w' => ∃ f t : Nat, e = .returned (.tuple #[.int .i64 f, .int .i64 t]) ∧ Arnd ss m p k f t ∧ Below w.heap.size w w' := by
  have hb0 := alloc_below w (.cells #[.slice O n c, .slice S m d] 126)
  have k1 := (bx_new w #[.slice O n c, .slice S m d] 126).cell 1
  simp at k1
  have HS := Lib.hid (hS.below hb0)
  have HB := Lib.hid hb0
  have hm := hS.2.1
  clear hS hb0
  go_enter Try.func97, Try.ntmps97
  go_wp2
  go_loopw [8] (fun v8 wr => ∃ f : Nat, v8 = .int .i64 f ∧ f ≤ p ∧ Hid (∀ j, f ≤ j → j < p → k ≤ ss.getD j 0) ∧ wr = w.alloc (.cells #[.slice O n c, .slice S m d] 126)) (fun v8 _ => (intOf v8).toNat)
  case atStart => exact ⟨p, rfl, Nat.le_refl _, Lib.hid (fun j h1 h2 => absurd h2 (by omega)), rfl⟩
  case round =>
    obtain ⟨f, rfl, hf, HF, rfl⟩ := hrel
    have next : ∀ f : Nat, True := fun _ => trivial
    clear next
    by_cases h0 : f = 0 ∨ ss.getD (f - 1) 0 < k
    · have H0 := Lib.hid h0
      have hcase : (f = 0 ∧ True) ∨ (∃ f', f = f' + 1 ∧ ss.getD f' 0 < k) := by
        rcases h0 with h | h
        · exact .inl ⟨h, trivial⟩
        · by_cases hz : f = 0
          · exact .inl ⟨hz, trivial⟩
          · exact .inr ⟨f - 1, by omega, h⟩
      clear h0
      rcases hcase with ⟨hz, _⟩ | ⟨f', hff, hlt⟩
      · subst hz
        go_wp2
        go_loopw [9] (fun v9 wr => ∃ l : Nat, v9 = .int .i64 l ∧ p ≤ l ∧ l ≤ m ∧ Hid (∀ j, p ≤ j → j < l → k ≤ ss.getD j 0) ∧ wr = w.alloc (.cells #[.slice O n c, .slice S m d] 126)) (fun v9 _ => m - (intOf v9).toNat)
        case atStart => exact ⟨p, rfl, Nat.le_refl _, hp, Lib.hid (fun j h1 h2 => absurd h2 (by omega)), rfl⟩
        case round =>
          obtain ⟨l, rfl, hl1, hl2, HL, rfl⟩ := hrel
          by_cases hend : l = m
          · subst hend
            have g4 : ¬ (l : Int) < (l : Int) := by omega
            have w3 : IntKind.i64.wrap ((l : Int) + 1) = ((l + 1 : Nat) : Int) := by rw [IntKind.wrap_i64]; omega
            go_wp2
            go_ret2
            exact ⟨0, l + 1, rfl, ⟨hf, by omega, by omega, HF.out, fun j h1 h2 => HL.out j h1 (by omega), Or.inl rfl, .inl (by omega)⟩, HB.out⟩
          · have g4 : (l : Int) < (m : Int) := by omega
            obtain ⟨b2, o2, eS2, _, hc2⟩ := HS.out.at_ (k := l) (by omega)
            subst eS2
            obtain ⟨z, hz2⟩ : ∃ z, z = ss.getD l 0 := ⟨_, rfl⟩
            rw [← hz2] at hc2
            have HZ := Lib.hid hz2
            clear hz2
            have g5 : (0 : Int) ≤ (l : Int) := by omega
            have w3 : IntKind.i64.wrap ((l : Int) + 1) = ((l + 1 : Nat) : Int) := by rw [IntKind.wrap_i64]; omega
            by_cases hkz : k ≤ z
            · have HL2 := Lib.hid (show ∀ j, p ≤ j → j < l + 1 → k ≤ ss.getD j 0 from fun j h1 h2 => by
                by_cases e : j = l
                · rw [e, ← HZ.out]; exact hkz
                · exact HL.out j h1 (by omega))
              go_wp2
              go_roundw
              case rel => exact ⟨l + 1, rfl, by omega, by omega, HL2, by first | rfl | trivial⟩
              case measure => simp [intOf]; omega
            · have hkz2 : z < k := by omega
              go_wp2
              go_ret2
              exact ⟨0, l + 1, rfl, ⟨hf, by omega, by omega, HF.out, fun j h1 h2 => HL.out j h1 (by omega), Or.inl rfl, .inr (by rw [Nat.add_sub_cancel, ← HZ.out]; exact hkz2)⟩, HB.out⟩
      · subst hff
        obtain ⟨b, o, rfl, _, hc⟩ := HS.out.at_ (k := f') (by omega)
        obtain ⟨y, hy⟩ : ∃ y, y = ss.getD f' 0 := ⟨_, rfl⟩
        rw [← hy] at hc hlt
        have HY := Lib.hid hy
        clear hy
        have hlt' : ¬ k ≤ y := by omega
        have g0 : (0 : Int) < ((f' + 1 : Nat) : Int) := by omega
        have w1 : IntKind.i64.wrap ((f' : Int) + 1 - 1) = (f' : Int) := by rw [IntKind.wrap_i64]; omega
        have w2 : IntKind.i64.wrap (((f' + 1 : Nat) : Int) - 1) = (f' : Int) := by rw [IntKind.wrap_i64]; omega
        have g1 : (0 : Int) ≤ (f' : Int) := by omega
        have g2 : (f' : Int) < (m : Int) := by omega
        go_wp2
        go_loopw [9] (fun v9 wr => ∃ l : Nat, v9 = .int .i64 l ∧ p ≤ l ∧ l ≤ m ∧ Hid (∀ j, p ≤ j → j < l → k ≤ ss.getD j 0) ∧ wr = w.alloc (.cells #[.slice O n c, .slice (some ⟨b, o, none⟩) m d] 126)) (fun v9 _ => m - (intOf v9).toNat)
        case atStart => exact ⟨p, rfl, Nat.le_refl _, hp, Lib.hid (fun j h1 h2 => absurd h2 (by omega)), rfl⟩
        case round =>
          obtain ⟨l, rfl, hl1, hl2, HL, rfl⟩ := hrel
          by_cases hend : l = m
          · subst hend
            have g4 : ¬ (l : Int) < (l : Int) := by omega
            have w3 : IntKind.i64.wrap ((l : Int) + 1) = ((l + 1 : Nat) : Int) := by rw [IntKind.wrap_i64]; omega
            go_wp2
            go_ret2
            exact ⟨f' + 1, l + 1, rfl, ⟨hf, by omega, by omega, HF.out, fun j h1 h2 => HL.out j h1 (by omega), H0.out, .inl (by omega)⟩, HB.out⟩
          · have g4 : (l : Int) < (m : Int) := by omega
            obtain ⟨b2, o2, eS2, _, hc2⟩ := HS.out.at_ (k := l) (by omega)
            cases eS2
            obtain ⟨z, hz2⟩ : ∃ z, z = ss.getD l 0 := ⟨_, rfl⟩
            rw [← hz2] at hc2
            have HZ := Lib.hid hz2
            clear hz2
            have g5 : (0 : Int) ≤ (l : Int) := by omega
            have w3 : IntKind.i64.wrap ((l : Int) + 1) = ((l + 1 : Nat) : Int) := by rw [IntKind.wrap_i64]; omega
            by_cases hkz : k ≤ z
            · have HL2 := Lib.hid (show ∀ j, p ≤ j → j < l + 1 → k ≤ ss.getD j 0 from fun j h1 h2 => by
                by_cases e : j = l
                · rw [e, ← HZ.out]; exact hkz
                · exact HL.out j h1 (by omega))
              go_wp2
              go_roundw
              case rel => exact ⟨l + 1, rfl, by omega, by omega, HL2, by first | rfl | trivial⟩
              case measure => simp [intOf]; omega
            · have hkz2 : z < k := by omega
              go_wp2
              go_ret2
              exact ⟨f' + 1, l + 1, rfl, ⟨hf, by omega, by omega, HF.out, fun j h1 h2 => HL.out j h1 (by omega), H0.out, .inr (by rw [Nat.add_sub_cancel, ← HZ.out]; exact hkz2)⟩, HB.out⟩
    · obtain ⟨f', rfl⟩ : ∃ f', f = f' + 1 := ⟨f - 1, by omega⟩
      obtain ⟨b, o, rfl, _, hc⟩ := HS.out.at_ (k := f') (by omega)
      obtain ⟨y, hy⟩ : ∃ y, y = ss.getD f' 0 := ⟨_, rfl⟩
      rw [← hy] at hc
      have hle : k ≤ y := by rw [hy]; have h2 := (not_or.1 h0).2; rw [Nat.add_sub_cancel] at h2; omega
      have HF2 := Lib.hid (show ∀ j, f' ≤ j → j < p → k ≤ ss.getD j 0 from fun j h1 h2 => by
        by_cases e : j = f'
        · rw [e, ← hy]; exact hle
        · exact HF.out j (by omega) h2)
      clear hy h0
      have g0 : (0 : Int) < ((f' + 1 : Nat) : Int) := by omega
      have w1 : IntKind.i64.wrap ((f' : Int) + 1 - 1) = (f' : Int) := by rw [IntKind.wrap_i64]; omega
      have w2 : IntKind.i64.wrap (((f' + 1 : Nat) : Int) - 1) = (f' : Int) := by rw [IntKind.wrap_i64]; omega
      have g1 : (0 : Int) ≤ (f' : Int) := by omega
      have g2 : (f' : Int) < (m : Int) := by omega
      go_wp2
      go_roundw
      case rel => exact ⟨f', rfl, by omega, HF2, by first | rfl | trivial⟩
      case measure => simp [intOf]
end Go.Proofs.Ytkgdgnmobahhfaa
end

section
/- A lower bound is not greater than the number of the states that are reached. No program. -/
namespace Go.Proofs.Ytkgdgnmobahhfaa

/-- The traces are those of a machine. -/
def OfM (i st : Nat) (nx ot : List (List Int)) (ts : List (List Int × List Int)) : Prop :=
  ∀ j, j < ts.length → tOut ts j = runO nx ot st (tIn ts j) ∧ ∀ x, x ∈ tIn ts j → 0 ≤ x ∧ x < (i : Int)

theorem runO_at (nx ot : List (List Int)) : ∀ (u : List Int) (s k : Nat), k < u.length → (runO nx ot s u).getD k 0 = oN ot (runS nx s (u.take k)) (u.getD k 0).toNat
  | [], _, _, h => by simp at h
  | x :: u, s, 0, _ => rfl
  | x :: u, s, k + 1, h => by
    have := runO_at nx ot u (nN nx s x.toNat) k (by simpa using h)
    simpa [runO, runS] using this
/-- Outputs of words with a common prefix. -/
theorem runO_pre (nx ot : List (List Int)) (s : Nat) {x a b : List Int} (ha : x <+: a) (hb : x <+: b) (h0 : 0 < x.length) : (runO nx ot s a).getD (x.length - 1) 0 = (runO nx ot s b).getD (x.length - 1) 0 := by
  obtain ⟨t, rfl⟩ := ha
  obtain ⟨u, rfl⟩ := hb
  rw [runO_append, runO_append]
  have hl := runO_len nx ot x s
  rw [List.getD_eq_getElem?_getD, List.getD_eq_getElem?_getD, List.getElem?_append_left (by omega), List.getElem?_append_left (by omega)]
/-- What is observed after a word, of a machine. -/
theorem aft_of {i st : Nat} {nx ot : List (List Int)} {ts : List (List Int × List Int)} {v : List Int} (h : OfM i st nx ot ts) {b : Nat} (hb : b < (aftK ts v ts.length).length) :
    tOut (aftK ts v ts.length) b = runO nx ot (runS nx st v) (tIn (aftK ts v ts.length) b) ∧ ∀ x, x ∈ v → 0 ≤ x ∧ x < (i : Int) := by
  obtain ⟨s, hs, hl, hc, e1, e2⟩ := aftK_at ts.length b hb
  obtain ⟨h1, h2⟩ := h s hs
  have hp := cut_pre hc
  constructor
  · rw [e2, e1, h1]
    conv => lhs; rw [← hp, runO_append]
    rw [List.drop_append_of_le_length (by rw [runO_len]; exact Nat.le_refl _), List.drop_of_length_le (by rw [runO_len]; exact Nat.le_refl _), List.nil_append]
  · intro x hx
    exact h2 x (by rw [← hp]; exact List.mem_append_left _ hx)
/-- Words that are apart lead to different states. -/
theorem ctr_state {i st : Nat} {nx ot : List (List Int)} {ts : List (List Int × List Int)} {v w : List Int} (h : OfM i st nx ot ts) (hc : ctr (aftK ts v ts.length) (aftK ts w ts.length) = true) :
    ¬ runS nx st v = runS nx st w ∧ (∀ x, x ∈ v → 0 ≤ x ∧ x < (i : Int)) ∧ ∀ x, x ∈ w → 0 ≤ x ∧ x < (i : Int) := by
  have : ∃ x, ShK (aftK ts v ts.length) (aftK ts w ts.length) (aftK ts v ts.length).length x := by
    simp only [ctr, decide_eq_true_eq] at hc
    exact hc
  obtain ⟨x, a, ha, hx, h0, b, hb, hy, hd⟩ := this
  obtain ⟨p1, p2⟩ := aft_of h ha
  obtain ⟨q1, q2⟩ := aft_of h hb
  refine ⟨fun e => hd ?_, p2, q2⟩
  rw [p1, q1, e]
  exact runO_pre nx ot _ hy hx h0
/-- The words that Lower keeps are apart. -/
theorem kep_pair {ts : List (List Int × List Int)} {ws : List (List Int)} (k : Nat) : (kepK ts ws k).Pairwise fun v w => ctr (aftK ts v ts.length) (aftK ts w ts.length) = true := by
  induction k with
  | zero => exact List.Pairwise.nil
  | succ k ih =>
    by_cases h : ∀ v, v ∈ kepK ts ws k → ctr (aftK ts v ts.length) (aftK ts (ws.getD k []) ts.length) = true
    · rw [kepK_yes h, List.pairwise_append]
      exact ⟨ih, List.pairwise_singleton _ _, fun v hv w hw => by simp at hw; rw [hw]; exact h v hv⟩
    · rw [kepK_no h]
      exact ih
theorem nd_le : ∀ {a b : List Nat}, a.Nodup → (∀ x, x ∈ a → x ∈ b) → a.length ≤ b.length
  | [], _, _, _ => by simp
  | x :: a, b, ha, h => by
    rw [List.nodup_cons] at ha
    have hx := h x (by simp)
    have := nd_le (a := a) (b := b.erase x) ha.2 (fun y hy => (List.mem_erase_of_ne (fun e => ha.1 (by rw [← e]; exact hy))).2 (h y (by simp [hy])))
    rw [List.length_erase_of_mem hx] at this
    have hp := List.length_pos_of_mem hx
    simp
    omega
theorem run_in {i st n : Nat} {nx ot : List (List Int)} (hM : Mok i st n nx ot) : ∀ (u : List Int) (q : Nat), q ∈ rch nx i st → (∀ x, x ∈ u → 0 ≤ x ∧ x < (i : Int)) → runS nx q u ∈ rch nx i st
  | [], _, h, _ => h
  | x :: u, q, h, hu => by
    have hx := hu x (by simp)
    have ha : x.toNat < i := by omega
    exact run_in hM u _ (hM.rch_in h ha) (fun y hy => hu y (by simp [hy]))
/-- A lower bound is not greater than the number of states. -/
theorem low_le {i st n : Nat} {nx ot : List (List Int)} {ts : List (List Int × List Int)} {ws : List (List Int)} (hM : Mok i st n nx ot) (h : OfM i st nx ot ts) (k : Nat) : (kepK ts ws k).length ≤ (rch nx i st).length := by
  have hp := kep_pair (ts := ts) (ws := ws) k
  have h1 : 0 < (rch nx i st).length := List.length_pos_of_mem (st_mem nx i st)
  by_cases h2 : (kepK ts ws k).length ≤ 1
  · omega
  · obtain ⟨l, hl⟩ : ∃ l, l = kepK ts ws k := ⟨_, rfl⟩
    rw [← hl] at hp h2 ⊢
    have hnd : (l.map (runS nx st)).Nodup := by
      rw [List.nodup_iff_pairwise_ne, List.pairwise_map]
      exact hp.imp fun {a b} hc => (ctr_state h hc).1
    have hin : ∀ q, q ∈ l.map (runS nx st) → q ∈ rch nx i st := by
      intro q hq
      obtain ⟨v, hv, rfl⟩ := List.mem_map.1 hq
      refine run_in hM v st (st_mem nx i st) ?_
      cases l with
      | nil => simp at hv
      | cons a l1 =>
        cases l1 with
        | nil => simp at h2
        | cons b t =>
          rw [List.pairwise_cons] at hp
          rcases List.mem_cons.1 hv with e | hv
          · rw [e]; exact (ctr_state h (hp.1 b (by simp))).2.1
          · exact (ctr_state h (hp.1 v hv)).2.2
    have := nd_le hnd hin
    rwa [List.length_map] at this
end Go.Proofs.Ytkgdgnmobahhfaa
end

section
/- What shows that words are apart, step by step, as the reference finds it. No program. -/
namespace Go.Proofs.Ytkgdgnmobahhfaa

/-- The first m symbols of X behind vs are answered, and as Y says. -/
def Agr (ts : List (List Int × List Int)) (vs X Y : List Int) (m : Nat) : Prop :=
  ∀ j, j < m → ∃ a, a < ts.length ∧ cmn (tIn ts a) (vs ++ X.take (j + 1)) = (vs ++ X.take (j + 1)).length ∧ (tOut ts a).getD (vs.length + j) 0 = Y.getD j 0
theorem sh1_of {ts : List (List Int × List Int)} {vs X Y x : List Int} (h : Sh1 (aftK ts vs ts.length) X Y x) :
    ∃ s, s < ts.length ∧ 0 < x.length ∧ x = X.take x.length ∧ x.length ≤ X.length ∧ cmn (tIn ts s) (vs ++ x) = (vs ++ x).length ∧ ¬ (tOut ts s).getD (vs.length + (x.length - 1)) 0 = Y.getD (x.length - 1) 0 := by
  obtain ⟨h1, h2, b, hb, h3, h4⟩ := h
  obtain ⟨s, hs, hl, hc, e1, e2⟩ := aftK_at ts.length b hb
  rw [e1] at h3
  rw [e2, getD_drop] at h4
  refine ⟨s, hs, h2, List.prefix_iff_eq_take.1 h1, h1.length_le, ?_, h4⟩
  have := cut_pre hc
  rw [← pre_cmn', ← this]
  exact (List.prefix_append_right_inj vs).2 h3
theorem pre_tk {x y z : List Int} (h : cmn z y = y.length) (hx : x <+: y) : cmn z x = x.length := pre_cmn'.1 (hx.trans (pre_cmn'.2 h))
theorem tk_pre {vs X : List Int} {a b : Nat} (h : a ≤ b) : vs ++ X.take a <+: vs ++ X.take b := (List.prefix_append_right_inj vs).2 (by
  have e : (X.take b).take a = X.take a := by rw [List.take_take, Nat.min_eq_left h]
  rw [← e]
  exact List.take_prefix _ _)
/-- What agrees shows nothing. -/
theorem agr_no {ts : List (List Int × List Int)} {vs X Y x : List Int} {m : Nat} (hC : Cons ts) (hA : Agr ts vs X Y m) (h : Sh1 (aftK ts vs ts.length) X Y x) : m < x.length := by
  obtain ⟨s, hs, h0, hx, hl, hc, hd⟩ := sh1_of h
  by_cases hm : m < x.length
  · exact hm
  · exfalso
    obtain ⟨a, ha, hca, he⟩ := hA (x.length - 1) (by omega)
    rw [show x.length - 1 + 1 = x.length by omega, ← hx] at hca
    refine hd ?_
    rw [← he]
    refine (hC s a hs ha _ ?_)
    have := pre_min (pre_cmn'.2 hc) (pre_cmn'.2 hca)
    rw [List.length_append] at this
    omega
theorem ans_none {ts : List (List Int × List Int)} {vs X Y x : List Int} {m : Nat} (hC : Cons ts) (hA : Agr ts vs X Y m) (hn : ∀ a, a < ts.length → ¬ cmn (tIn ts a) (vs ++ X.take (m + 1)) = (vs ++ X.take (m + 1)).length) : ¬ Sh1 (aftK ts vs ts.length) X Y x := fun h => by
  have hm := agr_no hC hA h
  obtain ⟨s, hs, h0, hx, hl, hc, hd⟩ := sh1_of h
  refine hn s hs (pre_tk hc ?_)
  rw [hx]
  exact tk_pre (by omega)
theorem ans_diff {ts : List (List Int × List Int)} {vs X Y : List Int} {m a : Nat} (hm : m < X.length) (ha : a < ts.length) (hc : cmn (tIn ts a) (vs ++ X.take (m + 1)) = (vs ++ X.take (m + 1)).length) (hd : ¬ (tOut ts a).getD (vs.length + m) 0 = Y.getD m 0) :
    Sh1 (aftK ts vs ts.length) X Y (X.take (m + 1)) := by
  have hl : (X.take (m + 1)).length = m + 1 := by rw [List.length_take]; omega
  have p := pre_cmn'.2 hc
  have pv : cmn (tIn ts a) vs = vs.length := pre_tk hc (List.prefix_append _ _)
  have hlt : vs.length < (tIn ts a).length := by
    have := p.length_le
    rw [List.length_append, hl] at this
    omega
  obtain ⟨j, hj, e1, e2⟩ := aftK_has ha hlt pv
  refine ⟨List.take_prefix _ _, by omega, j, hj, ?_, ?_⟩
  · rw [e1]
    have := cut_pre pv
    rw [← this] at p
    exact (List.prefix_append_right_inj vs).1 p
  · rw [e2, getD_drop, hl]
    exact hd
theorem Agr.zero (ts : List (List Int × List Int)) (vs X Y : List Int) : Agr ts vs X Y 0 := fun j h => absurd h (Nat.not_lt_zero j)
theorem Agr.step {ts : List (List Int × List Int)} {vs X Y : List Int} {m a : Nat} (h : Agr ts vs X Y m) (ha : a < ts.length) (hc : cmn (tIn ts a) (vs ++ X.take (m + 1)) = (vs ++ X.take (m + 1)).length) (hd : (tOut ts a).getD (vs.length + m) 0 = Y.getD m 0) : Agr ts vs X Y (m + 1) := fun j hj => by
  by_cases e : j = m
  · rw [e]; exact ⟨a, ha, hc, hd⟩
  · exact h j (by omega)
/-- Traces of the first words. -/
theorem shk_left {P Q : List (List Int × List Int)} {t : List Int × List Int} (x : List Int) : ShK (P ++ [t]) Q P.length x ↔ ShK P Q P.length x := by
  constructor
  · rintro ⟨a, ha, h⟩
    rw [tIn_left ha, tOut_left ha] at h
    exact ⟨a, ha, h⟩
  · rintro ⟨a, ha, h⟩
    refine ⟨a, ha, ?_⟩
    rw [tIn_left ha, tOut_left ha]
    exact h
theorem fst_left {P Q : List (List Int × List Int)} {t : List Int × List Int} {o : List Int} (h : Fst1 (ShK P Q P.length) o) : Fst1 (ShK (P ++ [t]) Q P.length) o := h.congr fun x => (shk_left x).symm
end Go.Proofs.Ytkgdgnmobahhfaa
end

section
/- Observations of a machine: one trace more or less; the answers behind words that are apart. No program. -/
namespace Go.Proofs.Ytkgdgnmobahhfaa

section
variable {i st : Nat} {nx ot : List (List Int)} {ts : List (List Int × List Int)}

theorem tr_mem {ts : List (List Int × List Int)} {q : List Int → List Int → Prop} : (∀ j, j < ts.length → q (tIn ts j) (tOut ts j)) ↔ ∀ t, t ∈ ts → q t.1 t.2 := by
  constructor
  · intro h t ht
    obtain ⟨j, hj, e⟩ := List.mem_iff_getElem.1 ht
    have := h j hj
    unfold tIn tOut at this
    rw [List.getD_eq_getElem?_getD, List.getElem?_eq_getElem hj] at this
    rw [← e]
    exact this
  · intro h j hj
    unfold tIn tOut
    rw [List.getD_eq_getElem?_getD, List.getElem?_eq_getElem hj]
    exact h _ (List.getElem_mem _)
theorem tr_ins {ts : List (List Int × List Int)} {q : List Int → List Int → Prop} (h : ∀ j, j < ts.length → q (tIn ts j) (tOut ts j)) {xs ys : List Int} (hx : q xs ys) (p : Nat) :
    ∀ j, j < (ts.take p ++ (xs, ys) :: ts.drop p).length → q (tIn (ts.take p ++ (xs, ys) :: ts.drop p) j) (tOut (ts.take p ++ (xs, ys) :: ts.drop p) j) := by
  rw [tr_mem] at h ⊢
  intro t ht
  rcases List.mem_append.1 ht with ht | ht
  · exact h t (List.mem_of_mem_take ht)
  · rcases List.mem_cons.1 ht with rfl | ht
    · exact hx
    · exact h t (List.mem_of_mem_drop ht)
theorem tr_del {ts : List (List Int × List Int)} {q : List Int → List Int → Prop} (h : ∀ j, j < ts.length → q (tIn ts j) (tOut ts j)) (b : Nat) : ∀ j, j < (ts.eraseIdx b).length → q (tIn (ts.eraseIdx b) j) (tOut (ts.eraseIdx b) j) := by
  rw [tr_mem] at h ⊢
  exact fun t ht => h t (List.mem_of_mem_eraseIdx ht)
theorem srt_pw {ts : List (List Int × List Int)} : Srt ts ↔ ts.Pairwise fun a b => shlex a.1 b.1 < 0 := by
  rw [List.pairwise_iff_getElem]
  have e : ∀ j (hj : j < ts.length), tIn ts j = (ts[j]).1 := fun j hj => by unfold tIn; rw [List.getD_eq_getElem?_getD, List.getElem?_eq_getElem hj]; rfl
  constructor
  · intro h a b ha hb hab
    rw [← e a ha, ← e b hb]
    exact h a b hab hb
  · intro h a b hab hb
    rw [e a (by omega), e b hb]
    exact h a b (by omega) hb hab
theorem srt_del {ts : List (List Int × List Int)} (h : Srt ts) (b : Nat) : Srt (ts.eraseIdx b) := by
  rw [srt_pw] at h ⊢
  exact h.sublist (List.eraseIdx_sublist _ _)
/-- A trace at its place. -/
theorem srt_ins {ts : List (List Int × List Int)} (h : Srt ts) {xs ys : List Int} {p : Nat} (h1 : ∀ j, j < p → j < ts.length → shlex (tIn ts j) xs < 0) (h2 : ∀ j, p ≤ j → j < ts.length → shlex xs (tIn ts j) < 0) : Srt (ts.take p ++ (xs, ys) :: ts.drop p) := by
  have e : ∀ j (hj : j < ts.length), tIn ts j = (ts[j]).1 := fun j hj => by unfold tIn; rw [List.getD_eq_getElem?_getD, List.getElem?_eq_getElem hj]; rfl
  have b1 : ∀ t, t ∈ ts.take p → shlex t.1 xs < 0 := fun t ht => by
    obtain ⟨j, hj, e1⟩ := List.mem_iff_getElem.1 ht
    rw [List.length_take] at hj
    rw [List.getElem_take] at e1
    have := h1 j (by omega) (by omega)
    rw [e j (by omega), e1] at this
    exact this
  have b2 : ∀ t, t ∈ ts.drop p → shlex xs t.1 < 0 := fun t ht => by
    obtain ⟨j, hj, e1⟩ := List.mem_iff_getElem.1 ht
    rw [List.length_drop] at hj
    rw [List.getElem_drop] at e1
    have := h2 (p + j) (by omega) (by omega)
    rw [e (p + j) (by omega), e1] at this
    exact this
  rw [srt_pw] at h ⊢
  have hs := h
  rw [← List.take_append_drop p ts, List.pairwise_append] at hs
  rw [List.pairwise_append, List.pairwise_cons]
  exact ⟨hs.1, ⟨b2, hs.2.1⟩, fun a ha b hb => by
    rcases List.mem_cons.1 hb with rfl | hb
    · exact b1 a ha
    · exact hs.2.2 a ha b hb⟩
/-- Traces of a machine agree with it as far as words are alike. -/
theorem of_agree (h : OfM i st nx ot ts) {b : Nat} (hb : b < ts.length) {xs : List Int} {j : Nat} (hj : j < cmn (tIn ts b) xs) : (tOut ts b).getD j 0 = (runO nx ot st xs).getD j 0 := by
  rw [(h b hb).1]
  have p1 : (xs.take (j + 1)) <+: tIn ts b := pre_take (by rw [cmn_comm]; omega)
  have p2 : (xs.take (j + 1)) <+: xs := List.take_prefix _ _
  have hl : (xs.take (j + 1)).length = j + 1 := by
    have := cmn_le_left xs (tIn ts b)
    rw [cmn_comm] at this
    rw [List.length_take]
    omega
  have := runO_pre nx ot st p1 p2 (by omega)
  rw [hl] at this
  exact this
theorem of_full (h : OfM i st nx ot ts) : Full ts := fun j hj => by rw [(h j hj).1, runO_len]
theorem of_cons (h : OfM i st nx ot ts) : Cons ts := fun a b ha hb j hj => by
  rw [of_agree h ha hj, (h b hb).1]
/-- The answer to a word that is known. -/
theorem of_take (h : OfM i st nx ot ts) {b : Nat} (hb : b < ts.length) {ws : List Int} (hc : cmn (tIn ts b) ws = ws.length) : (tOut ts b).take ws.length = runO nx ot st ws := by
  obtain ⟨t, ht⟩ := pre_cmn'.2 hc
  rw [(h b hb).1, ← ht, runO_append, List.take_append_of_le_length (by rw [runO_len]; exact Nat.le_refl _), List.take_of_length_le (by rw [runO_len]; exact Nat.le_refl _)]
/-- Behind words that are apart, both answers are known, and their last outputs differ. -/
theorem apart_known (h : OfM i st nx ot ts) {v w x : List Int} (hx : ShK (aftK ts v ts.length) (aftK ts w ts.length) (aftK ts v ts.length).length x) :
    0 < x.length ∧ knw ts (v ++ x) ts.length = (v ++ x).length ∧ knw ts (w ++ x) ts.length = (w ++ x).length ∧
      ¬ (runO nx ot st (v ++ x)).getD (v.length + (x.length - 1)) 0 = (runO nx ot st (w ++ x)).getD (w.length + (x.length - 1)) 0 := by
  have hsw := (shk_comm _ _ x).1 hx
  obtain ⟨a, ha, hx1, h0, b, hb, hy1, hd⟩ := hx
  have known : ∀ u {c : Nat}, c < (aftK ts u ts.length).length → x <+: tIn (aftK ts u ts.length) c → knw ts (u ++ x) ts.length = (u ++ x).length := by
    intro u c hc hp
    obtain ⟨s, hs, hl, hcm, e1, e2⟩ := aftK_at ts.length c hc
    rw [e1] at hp
    have hpre := cut_pre hcm
    have p : u ++ x <+: tIn ts s := by rw [← hpre]; exact (List.prefix_append_right_inj u).2 hp
    have g := knw_ge (ts := ts) (w := u ++ x) hs
    rw [pre_cmn'.1 p] at g
    exact Nat.le_antisymm knw_le g
  refine ⟨h0, known v ha hx1, known w hb hy1, fun e => hd ?_⟩
  rw [(aft_of h ha).1, (aft_of h hb).1]
  have r1 := runO_pre nx ot (runS nx st v) (List.prefix_refl x) hx1 h0
  have r2 := runO_pre nx ot (runS nx st w) (List.prefix_refl x) hy1 h0
  have g : ∀ u, (runO nx ot st (u ++ x)).getD (u.length + (x.length - 1)) 0 = (runO nx ot (runS nx st u) x).getD (x.length - 1) 0 := fun u => by
    rw [runO_append, List.getD_eq_getElem?_getD, List.getD_eq_getElem?_getD, List.getElem?_append_right (by rw [runO_len]; omega), runO_len, Nat.add_sub_cancel_left]
  rw [g, g] at e
  rw [← r1, ← r2]
  exact e.symm
end
end Go.Proofs.Ytkgdgnmobahhfaa
end

section
/- Traces in dictionary order: what fit finds out. No program. -/
namespace Go.Proofs.Ytkgdgnmobahhfaa
open Go.RowKit

/-- The trace at a position of the dictionary. -/
def opo (os : List Int) (p : Nat) : Nat := (os.getD p 0).toNat
/-- The dictionary of the traces. -/
structure Dict (ts : List (List Int × List Int)) (os ss : List Int) : Prop where
  ol : os.length = ts.length
  rng : ∀ p, p < ts.length → 0 ≤ os.getD p 0 ∧ opo os p < ts.length
  sur : ∀ i, i < ts.length → ∃ p, p < ts.length ∧ opo os p = i
  inj : ∀ p q, p < ts.length → q < ts.length → opo os p = opo os q → p = q
  srt : ∀ p q, p < q → q < ts.length → lexR (tIn ts (opo os p)) (tIn ts (opo os q)) ≤ 0
  sl : ss.length = ts.length - 1
  sh : ∀ p, p + 1 < ts.length → ss.getD p 0 = cmn (tIn ts (opo os p)) (tIn ts (opo os (p + 1)))
/-- The positions p and q are linked by k shared inputs. -/
def Lnk (ss : List Int) (k : Int) (p q : Nat) : Prop := (∀ j, p ≤ j → j < q → k ≤ ss.getD j 0) ∧ (∀ j, q ≤ j → j < p → k ≤ ss.getD j 0)
theorem Lnk.refl (ss : List Int) (k : Int) (p : Nat) : Lnk ss k p p := ⟨fun j h1 h2 => absurd h2 (by omega), fun j h1 h2 => absurd h2 (by omega)⟩
theorem arnd_iff {ss : List Int} {m p : Nat} {k : Int} {f t q : Nat} (h : Arnd ss m p k f t) (hq : q ≤ m) : (f ≤ q ∧ q < t) ↔ Lnk ss k p q := by
  obtain ⟨h1, h2, h3, h4, h5, h6, h7⟩ := h
  constructor
  · rintro ⟨g1, g2⟩
    exact ⟨fun j j1 j2 => h5 j j1 (by omega), fun j j1 j2 => h4 j (by omega) j2⟩
  · rintro ⟨g1, g2⟩
    constructor
    · rcases Nat.lt_or_ge q f with hlt | hge
      · rcases h6 with h6 | h6
        · omega
        · have := g2 (f - 1) (by omega) (by omega)
          omega
      · exact hge
    · rcases Nat.lt_or_ge q t with hlt | hge
      · exact hlt
      · rcases h7 with h7 | h7
        · omega
        · have := g1 (t - 1) (by omega) (by omega)
          omega
/-- How many of the shared outputs of neighbours agree. -/
def agrD (ts : List (List Int × List Int)) (os ss : List Int) (p : Nat) : Nat := cmn ((tOut ts (opo os p)).take (ss.getD p 0).toNat) ((tOut ts (opo os (p + 1))).take (ss.getD p 0).toNat)
/-- Among the first P neighbours one shows that i is a beginning of another trace. -/
def Ext (ts : List (List Int × List Int)) (os ss : List Int) (P i : Nat) : Prop := ∃ p, p < P ∧ opo os p = i ∧ ss.getD p 0 = ((tIn ts (opo os p)).length : Int)
/-- Among the first P neighbours one shows that i contradicts another trace. -/
def Con (ts : List (List Int × List Int)) (os ss : List Int) (P i : Nat) : Prop := ∃ p, p < P ∧ (agrD ts os ss p : Int) < ss.getD p 0 ∧ ∃ q, q < ts.length ∧ Lnk ss ((agrD ts os ss p : Int) + 1) p q ∧ opo os q = i
/-- The error that fit returns. -/
def FitR (ts : List (List Int × List Int)) (os ss : List Int) (R : Int) : Prop :=
  (R = 0 ∧ ∀ i, i < ts.length → ¬ Ext ts os ss ss.length i ∧ ¬ Con ts os ss ss.length i) ∨
  ∃ i, i < ts.length ∧ (∀ j, j < i → ¬ Ext ts os ss ss.length j ∧ ¬ Con ts os ss ss.length j) ∧ ((Ext ts os ss ss.length i ∧ R = 7) ∨ (¬ Ext ts os ss ss.length i ∧ Con ts os ss ss.length i ∧ R = 13))
/-- The result of dictionary. -/
def DictE (ts : List (List Int × List Int)) (n : Nat) (w : World) (e : Ending) (w' : World) : Prop :=
  ∃ (O S : Option Addr) (m cO cS : Nat) (os ss : List Int), e = .returned (.agg #[.slice O n cO, .slice S m cS]) ∧ Dict ts os ss ∧ Ints w' O n os ∧ Ints w' S m ss ∧ n ≤ cO ∧ m ≤ cS ∧ Below w.heap.size w w'
/-- No trace is a beginning of another one. -/
def PreF (ts : List (List Int × List Int)) : Prop := ∀ i k, i < ts.length → k < ts.length → ¬ i = k → ¬ tIn ts i <+: tIn ts k

section
variable {ts : List (List Int × List Int)} {os ss : List Int}

theorem Dict.snn (h : Dict ts os ss) {p : Nat} (hp : p + 1 < ts.length) : 0 ≤ ss.getD p 0 ∧ (ss.getD p 0).toNat = cmn (tIn ts (opo os p)) (tIn ts (opo os (p + 1))) := by
  rw [h.sh p hp]
  exact ⟨by omega, by omega⟩
theorem take_getD {xs : List Int} {s j : Nat} (h : j < s) : (xs.take s).getD j 0 = xs.getD j 0 := by
  rw [List.getD_eq_getElem?_getD, List.getD_eq_getElem?_getD, List.getElem?_take_of_lt h]
theorem agrD_le (h : Dict ts os ss) {p : Nat} (hp : p + 1 < ts.length) : (agrD ts os ss p : Int) ≤ ss.getD p 0 := by
  have h1 := (h.snn hp).1
  have h2 := cmn_le_left ((tOut ts (opo os p)).take (ss.getD p 0).toNat) ((tOut ts (opo os (p + 1))).take (ss.getD p 0).toNat)
  rw [List.length_take] at h2
  unfold agrD
  omega
theorem agrD_full (h : Dict ts os ss) {p : Nat} (hp : p + 1 < ts.length) (ha : ¬ (agrD ts os ss p : Int) < ss.getD p 0) : ∀ j, j < cmn (tIn ts (opo os p)) (tIn ts (opo os (p + 1))) → (tOut ts (opo os p)).getD j 0 = (tOut ts (opo os (p + 1))).getD j 0 := by
  intro j hj
  obtain ⟨h1, h2⟩ := h.snn hp
  have h3 := cmn_agree ((tOut ts (opo os p)).take (ss.getD p 0).toNat) ((tOut ts (opo os (p + 1))).take (ss.getD p 0).toNat)
  have h4 : (ss.getD p 0).toNat ≤ agrD ts os ss p := by omega
  have h5 := h3 j (by unfold agrD at h4; omega)
  rw [take_getD (by omega), take_getD (by omega)] at h5
  exact h5
theorem agrD_part (h : Dict ts os ss) (hF : Full ts) {p : Nat} (hp : p + 1 < ts.length) (ha : (agrD ts os ss p : Int) < ss.getD p 0) : agrD ts os ss p < cmn (tIn ts (opo os p)) (tIn ts (opo os (p + 1))) ∧ ¬ (tOut ts (opo os p)).getD (agrD ts os ss p) 0 = (tOut ts (opo os (p + 1))).getD (agrD ts os ss p) 0 := by
  obtain ⟨h1, h2⟩ := h.snn hp
  have l1 := cmn_le_left (tIn ts (opo os p)) (tIn ts (opo os (p + 1)))
  have l2 := cmn_le_right (tIn ts (opo os p)) (tIn ts (opo os (p + 1)))
  have f1 := hF _ (h.rng p (by omega)).2
  have f2 := hF _ (h.rng (p + 1) hp).2
  have hlt : agrD ts os ss p < (ss.getD p 0).toNat := by omega
  have h3 := cmn_part ((tOut ts (opo os p)).take (ss.getD p 0).toNat) ((tOut ts (opo os (p + 1))).take (ss.getD p 0).toNat)
    (by rw [List.length_take]; unfold agrD at hlt; omega) (by rw [List.length_take]; unfold agrD at hlt; omega)
  have h4 : ¬ ((tOut ts (opo os p)).take (ss.getD p 0).toNat).getD (agrD ts os ss p) 0 = ((tOut ts (opo os (p + 1))).take (ss.getD p 0).toNat).getD (agrD ts os ss p) 0 := h3
  rw [take_getD hlt, take_getD hlt] at h4
  exact ⟨by omega, h4⟩
theorem pre_lex0 {x y : List Int} (h : x <+: y) : lexR x y ≤ 0 := by
  have h1 := lexR_prefix y x (pre_cmn'.1 h)
  have h2 := lexR_neg x y
  omega
/-- No error: no trace is a beginning of another one, and none contradicts another one. -/
theorem fit_ok (h : Dict ts os ss) (hS : Srt ts) (hR : FitR ts os ss 0) : PreF ts ∧ Cons ts := by
  have hno : ∀ i, i < ts.length → ¬ Ext ts os ss ss.length i ∧ ¬ Con ts os ss ss.length i := by
    rcases hR with ⟨_, h1⟩ | ⟨i, _, _, ⟨_, h1⟩ | ⟨_, _, h1⟩⟩
    · exact h1
    · omega
    · omega
  have hsl := h.sl
  have hne : ∀ i k, i < ts.length → k < ts.length → ¬ i = k → ¬ tIn ts i = tIn ts k := by
    intro i k hi hk hik e
    rcases Nat.lt_or_ge i k with h1 | h1
    · have := hS i k h1 hk
      rw [e, shlex_irr] at this
      omega
    · have := hS k i (by omega) hi
      rw [e, shlex_irr] at this
      omega
  constructor
  · intro i k hi hk hik hp
    obtain ⟨a, ha, rfl⟩ := h.sur i hi
    obtain ⟨b, hb, rfl⟩ := h.sur k hk
    have hab : ¬ a = b := fun e => hik (by rw [e])
    rcases Nat.lt_or_ge a b with hlt | hge
    · refine (hno _ hi).1 ⟨a, by omega, rfl, ?_⟩
      rw [h.sh a (by omega)]
      have l1 := h.srt a (a + 1) (by omega) (by omega)
      have l2 : lexR (tIn ts (opo os (a + 1))) (tIn ts (opo os b)) ≤ 0 := by
        by_cases e : a + 1 = b
        · rw [e, lexR_irr]; exact Int.le_refl _
        · exact h.srt (a + 1) b (by omega) hb
      have l3 := (cmn_mono l1 l2).2
      rw [pre_cmn.1 hp] at l3
      have l4 := cmn_le_left (tIn ts (opo os a)) (tIn ts (opo os (a + 1)))
      omega
    · have l1 := h.srt b a (by omega) ha
      have l2 := pre_lex0 hp
      have l3 := lexR_neg (tIn ts (opo os a)) (tIn ts (opo os b))
      exact hne _ _ hi hk hik ((lexR_zero _ _).1 (by omega))
  · have key : ∀ d a, a + d < ts.length → ∀ j, j < cmn (tIn ts (opo os a)) (tIn ts (opo os (a + d))) → (tOut ts (opo os a)).getD j 0 = (tOut ts (opo os (a + d))).getD j 0 := by
      intro d
      induction d with
      | zero => intro a _ j _; rfl
      | succ d ih =>
        intro a had j hj
        have l1 : lexR (tIn ts (opo os a)) (tIn ts (opo os (a + d))) ≤ 0 := by
          cases d with
          | zero => rw [Nat.add_zero, lexR_irr]; exact Int.le_refl _
          | succ d => exact h.srt a (a + (d + 1)) (by omega) (by omega)
        have l2 := h.srt (a + d) (a + d + 1) (by omega) (by omega)
        rw [show a + (d + 1) = a + d + 1 by omega] at hj ⊢
        obtain ⟨m1, m2⟩ := cmn_mono l1 l2
        have e1 := ih a (by omega) j (by omega)
        have hnc := (hno (opo os (a + d)) (h.rng _ (by omega)).2).2
        have e2 := agrD_full h (p := a + d) (by omega) (fun hlt => hnc ⟨a + d, by omega, hlt, a + d, by omega, Lnk.refl _ _ _, rfl⟩) j (by omega)
        rw [e1, e2]
    intro i k hi hk j hj
    obtain ⟨a, ha, rfl⟩ := h.sur i hi
    obtain ⟨b, hb, rfl⟩ := h.sur k hk
    rcases Nat.lt_or_ge a b with hlt | hge
    · obtain ⟨d, rfl⟩ : ∃ d, b = a + d := ⟨b - a, by omega⟩
      exact key d a hb j hj
    · obtain ⟨d, rfl⟩ : ∃ d, a = b + d := ⟨a - b, by omega⟩
      exact (key d b ha j (by rw [cmn_comm]; exact hj)).symm
/-- Traces without beginnings and contradictions have no error. -/
theorem fit_good (h : Dict ts os ss) (hF : Full ts) (hP : PreF ts) (hC : Cons ts) {R : Int} (hR : FitR ts os ss R) : R = 0 := by
  have hsl := h.sl
  have e : ∀ i, ¬ Ext ts os ss ss.length i := by
    rintro i ⟨p, hp, _, he⟩
    have hp1 : p + 1 < ts.length := by omega
    rw [h.sh p hp1] at he
    refine hP _ _ (h.rng p (by omega)).2 (h.rng (p + 1) hp1).2 (fun e => ?_) (pre_cmn.2 (by omega))
    have := h.inj p (p + 1) (by omega) hp1 e
    omega
  have c : ∀ i, ¬ Con ts os ss ss.length i := by
    rintro i ⟨p, hp, ha, _⟩
    have hp1 : p + 1 < ts.length := by omega
    obtain ⟨h1, h2⟩ := agrD_part h hF hp1 ha
    exact h2 (hC _ _ (h.rng p (by omega)).2 (h.rng (p + 1) hp1).2 _ h1)
  rcases hR with ⟨h1, _⟩ | ⟨i, _, _, ⟨h1, _⟩ | ⟨_, h1, _⟩⟩
  · exact h1
  · exact absurd h1 (e i)
  · exact absurd h1 (c i)
end
end Go.Proofs.Ytkgdgnmobahhfaa
end

section
/- slices.SortFunc of the numbers of traces, in dictionary order of their input words. -/
namespace Go.Proofs.Ytkgdgnmobahhfaa
open Go.RowKit Go.Sort Go.Shelf

/-- Numbers below N + 1 as values. -/
def encF (N : Nat) (i : Fin (N + 1)) : Value := .int .i64 (i.val : Int)
def toI {N : Nat} (d : Array (Fin (N + 1))) : Array Int := d.map fun i => (i.val : Int)
theorem toI_get {N : Nat} (d : Array (Fin (N + 1))) {j : Nat} (hj : j < d.size) : (toI d)[j]! = ((d[j]!).val : Int) := by
  unfold toI
  rw [getElem!_pos _ j (by simpa using hj), getElem!_pos d j hj, Array.getElem_map]
theorem putRow_F {N : Nat} (w : World) (g : Nat) (d : Array (Fin (N + 1))) : putRow (encF N) w g 0 d = putRow (Value.int .i64) w g 0 (toI d) := by
  unfold putRow
  congr 1
  funext c
  unfold putCells
  have hs : (toI d).size = d.size := by simp [toI]
  congr 1
  funext k x
  rw [hs]
  by_cases h : 0 ≤ k ∧ k < 0 + d.size
  · rw [if_pos h, if_pos h, toI_get d (by omega)]
    rfl
  · rw [if_neg h, if_neg h]
theorem sortWorld_F {N : Nat} (w : World) (g n : Nat) (d : Array (Fin (N + 1))) (os : Array Obj) : sortWorld (encF N) w g 0 n d os = grow (putRow (Value.int .i64) (Sort.ahead w n) g 0 (toI d)) os := by
  unfold sortWorld
  rw [putRow_F]
/-- The comparison of two traces. -/
def cfT (ts : List (List Int × List Int)) (N : Nat) (x y : Fin (N + 1)) : Int := lexR (tIn ts x.val) (tIn ts y.val)
theorem swoT (ts : List (List Int × List Int)) (N : Nat) : SWO (ltOf (cfT ts N)) where
  irrefl x := by unfold ltOf cfT; rw [lexR_irr]; simp
  trans x y z h1 h2 := by
    unfold ltOf cfT at *
    simp only [decide_eq_true_eq] at *
    exact (lexR_trans _ _ _).2 h1 (by omega)
  ntrans x y z h1 h2 := by
    unfold ltOf cfT at *
    simp only [decide_eq_false_iff_not] at *
    have a1 := lexR_neg (tIn ts x.val) (tIn ts y.val)
    have a2 := lexR_neg (tIn ts y.val) (tIn ts z.val)
    have a3 := lexR_neg (tIn ts x.val) (tIn ts z.val)
    have := (lexR_trans (tIn ts z.val) (tIn ts y.val) (tIn ts x.val)).1 (by omega) (by omega)
    omega

set_option linter.unusedSimpArgs false in
set_option linter.unusedVariables false in
set_option maxHeartbeats 4000000 in
set_option maxRecDepth 100000 in
/-- The closure. -/
theorem pdic1 (L : Option Addr) (n c bl x y : Nat) (ts : List (List Int × List Int)) (w : World) (hT : Trs w L n ts) (hl : w.cell? ⟨bl, 0, none⟩ = some (.slice L n c)) (hx : x < n) (hy : y < n) :
    Calls Try.prog 120 #[.int .i64 x, .int .i64 y, .pointer (some ⟨bl, 0, none⟩)] w fun e w' => e = .returned (.int .i64 (lexR (tIn ts x) (tIn ts y))) ∧ ∃ q, w' = w.drewN q := by
  obtain ⟨b, off, A1, n1, c1, A2, n2, c2, eT, hgT, j1, j2, q1, q2, j3, j4⟩ := hT.at_ hx
  subst eT
  obtain ⟨_, _, B1, m1, d1, B2, m2, d2, eT, _, i1, i2, u1, u2, i3, i4⟩ := hT.at_ hy
  cases eT
  have HL := Lib.hid (fun q => wlex A1 B1 n1 c1 m1 d1 (tIn ts x) (tIn ts y) (w.drewN q) (j3.drewN q) (i3.drewN q))
  rw [lexi_lexR] at HL
  obtain ⟨z, hz⟩ : ∃ z, z = lexR (tIn ts x) (tIn ts y) := ⟨_, rfl⟩
  rw [← hz] at HL ⊢
  have hxI : (x : Int) < (n : Int) := by omega
  have hyI : (y : Int) < (n : Int) := by omega
  have hx0 : (0 : Int) ≤ (x : Int) := by omega
  have hy0 : (0 : Int) ≤ (y : Int) := by omega
  clear hz hT j3 j4 i3 i4 j2 i2 hgT
  go_enter Try.func120, Try.ntmps120
  go_wp2
  go_quiet ((go_at_call 94; exact Calls.quiet_of (HL.out _)))
  go_wp2
  go_ret
  exact ⟨rfl, _, rfl⟩
theorem entD1 : ∀ args w, (callFunc 120 args).run Try.prog w = .ok (.enter 120 args) w := enters_of Try.func120 (by kernel_rfl) rfl

/-- The numbers up to N in ascending order. -/
def allF (N : Nat) : Array (Fin (N + 1)) := Array.ofFn fun i => i
theorem allF_I (N : Nat) : (toI (allF N)).toList = (List.range (N + 1)).map fun k => ((k : Nat) : Int) := by
  unfold toI allF
  apply List.ext_getElem
  · simp
  · intro k h1 h2
    simp only [Array.toList_map, Array.toList_ofFn, List.getElem_map, List.getElem_ofFn, List.getElem_range]
theorem ext_all {α : Type} (a : Array α) (n : Nat) (h : a.size = n) : a.extract 0 n = a := by
  subst h
  exact Array.extract_size
/-- The sort. -/
theorem psortF (N : Nat) (L : Option Addr) (c bl g cO base : Nat) (ts : List (List Int × List Int)) (w : World)
    (hH : ∀ W, Below base w W → Trs W L (N + 1) ts ∧ W.cell? ⟨bl, 0, none⟩ = some (.slice L (N + 1) c))
    (ho : Owned w base (.slice (some ⟨g, 0, none⟩) (N + 1) cO) ((List.range (N + 1)).map fun k => ((k : Nat) : Int))) (hb : base ≤ w.heap.size) (hN : N ≤ 10000) :
    Calls Try.prog 119 #[.slice (some ⟨g, 0, none⟩) (N + 1) cO, .func (.func 120) #[] #[.pointer (some ⟨bl, 0, none⟩)]] w fun e w' =>
      e = .returned (.tuple #[]) ∧ Below base w w' ∧ ∃ d' : Array (Fin (N + 1)), PermIn 0 (N + 1) (allF N) d' ∧ SortedIn (ltOf (cfT ts N)) 0 (N + 1) d' ∧ Owned w' base (.slice (some ⟨g, 0, none⟩) (N + 1) cO) (toI d').toList := by
  rcases ho.2 with ⟨e, h0⟩ | ⟨g', cap, cur, e, hbg, hg, h1, h2, h3, h4⟩
  · cases e
  · injection e with e1 _ e3
    injection e1 with e1
    injection e1 with e1
    subst e1
    subst e3
    have hsz : (allF N).size = N + 1 := by simp [allF]
    have hlen : ((List.range (N + 1)).map fun k => ((k : Nat) : Int)).length = N + 1 := by simp
    have hH0 := holds_of_blockI hg (by rw [Nat.mul_one] at h4; exact h4)
    have hHF : Holds (encF N) w g 0 (allF N) := by
      intro j hj
      have h := hH0 j (by rw [List.size_toArray, hlen, ← hsz]; exact hj)
      rw [← allF_I] at h
      have e1 : (toI (allF N)).toList.toArray = toI (allF N) := Array.toArray_toList
      rw [e1, toI_get _ hj] at h
      exact h
    have hblk : g < w.heap.size := by
      rcases Nat.lt_or_ge g w.heap.size with hlt | hge
      · exact hlt
      · rw [Array.getElem?_eq_none hge] at hg; cases hg
    have hbel : ∀ m (d : Array (Fin (N + 1))) os, Below base w (sortWorld (encF N) w g 0 m d os) := fun m d os => by
      rw [sortWorld_F]
      exact (Below.refl _ _).grown (grownBy_sortedI _) hb (fun k hk => by cases hk; exact hbg)
    have hcmp : CmpLays1 Try.prog 120 #[.pointer (some ⟨bl, 0, none⟩)] (encF N) (cfT ts N) g 0 (N + 1) w := by
      intro m os dk hs x y
      obtain ⟨t1, t2⟩ := hH _ (hbel m dk os)
      refine (pdic1 L (N + 1) c bl x.val y.val ts _ t1 t2 x.isLt y.isLt).mono ?_
      rintro e w' ⟨rfl, q, rfl⟩
      exact ⟨rfl, q, #[], by rw [grow_empty]⟩
    have hcon := Any.slices_SortFunc Try.sortF (encF N) (fun _ => rfl) (cfT ts N) (swoT ts N) 120 #[.pointer (some ⟨bl, 0, none⟩)] g 0 cO (allF N) w entD1 (by rw [hsz]; exact hcmp) hHF hblk (by rw [hsz]; omega)
    rw [hsz] at hcon
    refine Calls.mono (hcon : Calls Try.prog 119 _ _ _) ?_
    rintro e w' ⟨rfl, d', n, os, hp, hs, rfl⟩
    have hsz' : d'.size = N + 1 := by rw [hp.1, hsz]
    refine ⟨rfl, hbel _ _ _, d', hp, hs, ?_⟩
    rw [sortWorld_F]
    have := ownsRow_sortedI (n := n) (os := os) (ts := (toI d').toList) (ss := (List.range (N + 1)).map fun k => ((k : Nat) : Int)) (by rw [hlen]; simp [toI, hsz']) hbg hg h1 h2 h3
    have e1 : (toI d').toList.toArray = toI d' := Array.toArray_toList
    rw [e1] at this
    have e2 : (toI d').toList.length = N + 1 := by simp [toI, hsz']
    unfold Owned
    rw [e2]
    rw [hlen] at this
    exact this
/-- What the sort gives is the order of a dictionary. -/
theorem dict_of {N : Nat} {ts : List (List Int × List Int)} {d' : Array (Fin (N + 1))} (hp : PermIn 0 (N + 1) (allF N) d') (hs : SortedIn (ltOf (cfT ts N)) 0 (N + 1) d') (hl : ts.length = N + 1) {ss : List Int} (sl : ss.length = N)
    (sh : ∀ p, p < N → ss.getD p 0 = cmn (tIn ts (opo (toI d').toList p)) (tIn ts (opo (toI d').toList (p + 1)))) : Dict ts (toI d').toList ss := by
  have hsz : d'.size = N + 1 := by rw [hp.1]; simp [allF]
  have hperm : (toI d').toList.Perm ((List.range (N + 1)).map fun k => ((k : Nat) : Int)) := by
    have h := hp.2.2
    have e1 : d'.extract 0 (N + 1) = d' := ext_all _ _ hsz
    have e2 : (allF N).extract 0 (N + 1) = allF N := ext_all _ _ (by simp [allF])
    rw [e1, e2] at h
    have h2 := h.map fun i : Fin (N + 1) => (i.val : Int)
    have e3 : (toI d').toList = d'.toList.map fun i => (i.val : Int) := by simp [toI]
    have e4 : (allF N).toList.map (fun i : Fin (N + 1) => (i.val : Int)) = (toI (allF N)).toList := by simp [toI]
    rw [e4, allF_I] at h2
    rw [e3]
    exact h2
  have hol : (toI d').toList.length = N + 1 := by simp [toI, hsz]
  have hval : ∀ p, p < N + 1 → (toI d').toList.getD p 0 = ((d'[p]!).val : Int) := fun p hp => by
    rw [← toI_get d' (by rw [hsz]; exact hp), List.getD_eq_getElem?_getD, Array.getElem?_toList, getElem!_pos _ p (by simpa [toI, hsz] using hp), Array.getElem?_eq_getElem (by simpa [toI, hsz] using hp)]
    rfl
  have hopo : ∀ p, p < N + 1 → opo (toI d').toList p = (d'[p]!).val := fun p hp => by unfold opo; rw [hval p hp]; omega
  have hnd : ((toI d').toList).Nodup := by
    rw [hperm.nodup_iff, List.nodup_iff_pairwise_ne, List.pairwise_map]
    exact List.pairwise_lt_range.imp fun {a b} h => by omega
  refine ⟨by rw [hol, hl], fun p h => ?_, fun i h => ?_, fun p q h1 h2 e => ?_, fun p q h1 h2 => ?_, by rw [sl, hl]; omega, fun p h => sh p (by omega)⟩
  · rw [hl] at h ⊢
    rw [hval p h, hopo p h]
    exact ⟨by omega, (d'[p]!).isLt⟩
  · rw [hl] at h
    have hm : (i : Int) ∈ (toI d').toList := hperm.mem_iff.2 (List.mem_map.2 ⟨i, by simpa using h, rfl⟩)
    obtain ⟨p, hp1, hp2⟩ := List.mem_iff_getElem.1 hm
    refine ⟨p, by rw [hl]; omega, ?_⟩
    unfold opo
    rw [List.getD_eq_getElem?_getD, List.getElem?_eq_getElem hp1, hp2]
    simp
  · rw [hl] at h1 h2
    have hv : (toI d').toList.getD p 0 = (toI d').toList.getD q 0 := by
      rw [hval p h1, hval q h2]
      rw [hopo p h1, hopo q h2] at e
      omega
    rw [List.getD_eq_getElem?_getD, List.getD_eq_getElem?_getD, List.getElem?_eq_getElem (by omega), List.getElem?_eq_getElem (by omega)] at hv
    rw [List.nodup_iff_pairwise_ne, List.pairwise_iff_getElem] at hnd
    rcases Nat.lt_trichotomy p q with h | h | h
    · exact absurd hv (hnd p q (by omega) (by omega) h)
    · exact h
    · exact absurd hv.symm (hnd q p (by omega) (by omega) h)
  · rw [hl] at h2
    have h3 := hs p q (Nat.zero_le _) h1 h2
    unfold ltOf cfT at h3
    simp only [decide_eq_false_iff_not] at h3
    rw [hopo p (by omega), hopo q h2]
    have := lexR_neg (tIn ts (d'[p]!).val) (tIn ts (d'[q]!).val)
    omega
end Go.Proofs.Ytkgdgnmobahhfaa
end

section
/- Adding a trace: what insert does, as a relation. No program. -/
namespace Go.Proofs.Ytkgdgnmobahhfaa

/-- The traces without the one that is a beginning of the new one. -/
def InsD (ts : List (List Int × List Int)) (best K : Nat) : List (List Int × List Int) := if 0 < K ∧ K = (tIn ts best).length then ts.eraseIdx best else ts
/-- What adding the trace xs / ys to ts gives: the error e, and ts' without an error. -/
def InsR (ts : List (List Int × List Int)) (xs ys : List Int) (i e : Int) (ts' : List (List Int × List Int)) : Prop :=
  ∃ best, Got ts xs best (knw ts xs ts.length) ∧
    ((¬ prpE xs ys i = 0 ∧ e = prpE xs ys i) ∨
     (prpE xs ys i = 0 ∧ agrN ts best (knw ts xs ts.length) ys < knw ts xs ts.length ∧ e = 13) ∨
     (prpE xs ys i = 0 ∧ agrN ts best (knw ts xs ts.length) ys = knw ts xs ts.length ∧ knw ts xs ts.length = xs.length ∧ e = 0 ∧ ts' = ts) ∨
     (prpE xs ys i = 0 ∧ agrN ts best (knw ts xs ts.length) ys = knw ts xs ts.length ∧ knw ts xs ts.length < xs.length ∧ 10000 ≤ (InsD ts best (knw ts xs ts.length)).length ∧ e = 11) ∨
     (prpE xs ys i = 0 ∧ agrN ts best (knw ts xs ts.length) ys = knw ts xs ts.length ∧ knw ts xs ts.length < xs.length ∧ (InsD ts best (knw ts xs ts.length)).length < 10000 ∧ e = 0 ∧
       ∃ p, p ≤ (InsD ts best (knw ts xs ts.length)).length ∧ (∀ j, j < p → shlex (tIn (InsD ts best (knw ts xs ts.length)) j) xs < 0) ∧ (∀ j, p ≤ j → j < (InsD ts best (knw ts xs ts.length)).length → 0 ≤ shlex (tIn (InsD ts best (knw ts xs ts.length)) j) xs) ∧
         ts' = (InsD ts best (knw ts xs ts.length)).take p ++ (xs, ys) :: (InsD ts best (knw ts xs ts.length)).drop p))

section
variable {ts ts' : List (List Int × List Int)} {xs ys : List Int} {i e : Int}

theorem InsD.len_le (ts : List (List Int × List Int)) (best K : Nat) : (InsD ts best K).length ≤ ts.length := by
  unfold InsD
  split
  · exact List.length_eraseIdx_le _ _
  · exact Nat.le_refl _
theorem InsD.all {q : List Int → List Int → Prop} (h : ∀ j, j < ts.length → q (tIn ts j) (tOut ts j)) (best K : Nat) : ∀ j, j < (InsD ts best K).length → q (tIn (InsD ts best K) j) (tOut (InsD ts best K) j) := by
  unfold InsD
  split
  · exact tr_del h _
  · exact h
theorem InsD.srt (h : Srt ts) (best K : Nat) : Srt (InsD ts best K) := by
  unfold InsD
  split
  · exact srt_del h _
  · exact h
theorem InsR.all {q : List Int → List Int → Prop} (hr : InsR ts xs ys i 0 ts') (h : ∀ j, j < ts.length → q (tIn ts j) (tOut ts j)) (hx : prpE xs ys i = 0 → q xs ys) : ∀ j, j < ts'.length → q (tIn ts' j) (tOut ts' j) := by
  obtain ⟨best, _, hr⟩ := hr
  rcases hr with ⟨h1, h2⟩ | ⟨_, _, h2⟩ | ⟨_, _, _, _, rfl⟩ | ⟨_, _, _, _, h2⟩ | ⟨h1, _, _, _, _, p, _, _, _, rfl⟩
  · exact absurd h2.symm h1
  · omega
  · exact h
  · omega
  · exact tr_ins (InsD.all h _ _) (hx h1) p
theorem InsR.prp (hr : InsR ts xs ys i 0 ts') : prpE xs ys i = 0 := by
  obtain ⟨best, _, hr⟩ := hr
  rcases hr with ⟨h1, h2⟩ | ⟨h1, _⟩ | ⟨h1, _⟩ | ⟨h1, _⟩ | ⟨h1, _⟩
  · exact h2.symm
  all_goals exact h1
theorem knw_lt_ne {j : Nat} (hj : j < ts.length) (h : knw ts xs ts.length < xs.length) : ¬ tIn ts j = xs := fun e => by
  have := knw_ge (ts := ts) (w := xs) hj
  rw [e, (cmn_full (xs := xs) (ys := xs) rfl).2 rfl] at this
  omega
theorem InsR.srt (hr : InsR ts xs ys i 0 ts') (hS : Srt ts) : Srt ts' := by
  obtain ⟨best, _, hr⟩ := hr
  rcases hr with ⟨h1, h2⟩ | ⟨_, _, h2⟩ | ⟨_, _, _, _, rfl⟩ | ⟨_, _, _, _, h2⟩ | ⟨h1, _, hlt, _, _, p, hp, hlo, hhi, rfl⟩
  · exact absurd h2.symm h1
  · omega
  · exact hS
  · omega
  · refine srt_ins (InsD.srt hS _ _) (fun j hj _ => hlo j hj) (fun j h1 h2 => ?_)
    refine shlex_gt' (by have := hhi j h1 h2; omega) ?_
    exact InsD.all (q := fun a _ => ¬ a = xs) (fun j hj => knw_lt_ne hj hlt) _ _ j h2
theorem InsR.len (hr : InsR ts xs ys i 0 ts') : ts'.length ≤ ts.length + 1 := by
  obtain ⟨best, _, hr⟩ := hr
  rcases hr with ⟨h1, h2⟩ | ⟨_, _, h2⟩ | ⟨_, _, _, _, rfl⟩ | ⟨_, _, _, _, h2⟩ | ⟨h1, _, hlt, _, _, p, hp, hlo, hhi, rfl⟩
  · exact absurd h2.symm h1
  · omega
  · omega
  · omega
  · have := InsD.len_le ts best (knw ts xs ts.length)
    rw [List.length_append, List.length_take, List.length_cons, List.length_drop]
    omega
theorem InsR.full (hr : InsR ts xs ys i 0 ts') (hF : Full ts) : Full ts' := hr.all (q := fun a b => b.length = a.length) hF fun h => (prp_zero h).2.1
theorem InsR.props (hr : InsR ts xs ys i 0 ts') (hF : Props i ts) : Props i ts' := hr.all (q := fun a b => prpE a b i = 0) hF fun h => h
end

/-- Adding traces one after another. -/
def AddsR (i : Int) : List (List Int × List Int) → List (List Int × List Int) → Int → List (List Int × List Int) → Prop
  | [], ts, e, ts' => e = 0 ∧ ts' = ts
  | u :: us, ts, e, ts' => ∃ e1 ts1, InsR ts u.1 u.2 i e1 ts1 ∧ ((¬ e1 = 0 ∧ e = e1) ∨ (e1 = 0 ∧ AddsR i us ts1 e ts'))
theorem AddsR.nil {i : Int} (ts : List (List Int × List Int)) : AddsR i [] ts 0 ts := ⟨rfl, rfl⟩
theorem AddsR.stop {i e : Int} {u : List Int × List Int} {us ts ts1 : List (List Int × List Int)} (h : InsR ts u.1 u.2 i e ts1) (he : ¬ e = 0) (ts' : List (List Int × List Int)) : AddsR i (u :: us) ts e ts' := ⟨e, ts1, h, .inl ⟨he, rfl⟩⟩
theorem AddsR.step {i e : Int} {u : List Int × List Int} {us ts ts1 ts' : List (List Int × List Int)} (h : InsR ts u.1 u.2 i 0 ts1) (hr : AddsR i us ts1 e ts') : AddsR i (u :: us) ts e ts' := ⟨0, ts1, h, .inr ⟨rfl, hr⟩⟩
theorem AddsR.all {i : Int} {q : List Int → List Int → Prop} : ∀ {us ts ts' : List (List Int × List Int)}, AddsR i us ts 0 ts' → (∀ j, j < ts.length → q (tIn ts j) (tOut ts j)) → (∀ u, u ∈ us → prpE u.1 u.2 i = 0 → q u.1 u.2) → ∀ j, j < ts'.length → q (tIn ts' j) (tOut ts' j)
  | [], ts, ts', h, h1, _ => by rw [h.2]; exact h1
  | u :: us, ts, ts', ⟨e1, ts1, hr, h⟩, h1, h2 => by
    rcases h with ⟨h3, h4⟩ | ⟨rfl, h⟩
    · exact absurd h4.symm h3
    · exact h.all (hr.all h1 (h2 u (by simp))) (fun v hv => h2 v (by simp [hv]))
theorem AddsR.srt {i : Int} : ∀ {us ts ts' : List (List Int × List Int)}, AddsR i us ts 0 ts' → Srt ts → Srt ts'
  | [], ts, ts', h, h1 => by rw [h.2]; exact h1
  | u :: us, ts, ts', ⟨e1, ts1, hr, h⟩, h1 => by
    rcases h with ⟨h3, h4⟩ | ⟨rfl, h⟩
    · exact absurd h4.symm h3
    · exact h.srt (hr.srt h1)
theorem AddsR.full {i : Int} {us ts ts' : List (List Int × List Int)} (h : AddsR i us ts 0 ts') (hF : Full ts) : Full ts' := h.all (q := fun a b => b.length = a.length) hF fun _ _ h => (prp_zero h).2.1
theorem AddsR.props {i : Int} {us ts ts' : List (List Int × List Int)} (h : AddsR i us ts 0 ts') (hF : Props i ts) : Props i ts' := h.all (q := fun a b => prpE a b i = 0) hF fun _ _ h => h
theorem srt_none : Srt [] := fun a b _ h => absurd h (by simp)
theorem full_none : Full [] := fun a h => absurd h (by simp)
end Go.Proofs.Ytkgdgnmobahhfaa
end

section
/- Copying elements of several cells within blocks. No program's function. -/
namespace Go.Proofs.Ytkgdgnmobahhfaa
open Go.RowKit

/-- Elements of k cells are copied as their cells are. -/
theorem run_copy_k {P : Program} (w : World) (dT sT ty elem : TypeId) (k b o dLen dCap : Nat) (a : Addr) (sLen sCap n : Nat) (cs : List Value)
    (hu : P.underlying dT = some (.slice elem)) (hs : (P.info? elem).map (·.size) = some k) (hn : n = Nat.min sLen dLen) (hl : cs.length = n * k)
    (hsrc : ∀ j v, cs[j]? = some v → w.cell? (a.add j) = some v) (hc : ∀ j, j < cs.length → (w.cell? ⟨b, o + j, none⟩).isSome = true) (hf : ∀ j, j < cs.length → w.frozen? ⟨b, o + j, none⟩ = false) (h1 : ∀ v ∈ cs, v.oneCell' = true) :
    (Builtin.copy_ #[dT, sT] ty #[.slice (some ⟨b, o, none⟩) dLen dCap, .slice (some a) sLen sCap]).run P w = .ok (goInt n) (w.setCells b o cs) := by
  have hld := run_loadCells_list (P := P) w a cs hsrc
  have hst := run_storeCells_cells (P := P) b o cs 0 w (by simpa using hc) (by simpa using hf) h1
  rw [hl] at hld
  cases hq : P.info? elem with
  | none => simp [hq] at hs
  | some i =>
    have hi : i.size = k := by simpa [hq] using hs
    simp [Builtin.copy_, run_underlying hu, Builtin.lenOf, Builtin.firstCells, sizeOf, typeInfo, hq, hi, ← hn, hld, hst]

/-- An array with some cells put over. -/
def ovr (cur : Array Value) (o : Nat) : List Value → Array Value
  | [] => cur
  | v :: r => ovr (cur.setIfInBounds o v) (o + 1) r
theorem ovr_size (cur : Array Value) (o : Nat) (vs : List Value) : (ovr cur o vs).size = cur.size := by
  induction vs generalizing cur o with
  | nil => rfl
  | cons v r ih => rw [ovr, ih, Array.size_setIfInBounds]
theorem ovr_out {cur : Array Value} {o j : Nat} {vs : List Value} (h : j < o ∨ o + vs.length ≤ j) : (ovr cur o vs)[j]? = cur[j]? := by
  induction vs generalizing cur o with
  | nil => rfl
  | cons v r ih =>
    rw [ovr, ih (by simp at h; omega)]
    rw [Array.getElem?_setIfInBounds_ne (by simp at h; omega)]
theorem ovr_in {cur : Array Value} {o j : Nat} {vs : List Value} (hb : o + vs.length ≤ cur.size) (hj : j < vs.length) : (ovr cur o vs)[o + j]? = vs[j]? := by
  induction vs generalizing cur o j with
  | nil => simp at hj
  | cons v r ih =>
    rw [ovr]
    cases j with
    | zero =>
      have := ovr_out (cur := cur.setIfInBounds o v) (o := o + 1) (j := o) (vs := r) (.inl (by omega))
      show (ovr (cur.setIfInBounds o v) (o + 1) r)[o]? = _
      rw [this, Array.getElem?_setIfInBounds_self_of_lt (by simp at hb; omega)]
      rfl
    | succ j =>
      have := ih (cur := cur.setIfInBounds o v) (o := o + 1) (j := j) (by rw [Array.size_setIfInBounds]; simp at hb; omega) (by simp at hj; omega)
      rw [show o + (j + 1) = o + 1 + j by omega, this]
      rfl
theorem Bx.ovr {w : World} {g : Nat} {cs : Array Value} {t : TypeId} (h : Bx w g cs t) (o : Nat) (vs : List Value) : Bx (w.setCells g o vs) g (ovr cs o vs) t := by
  induction vs generalizing w cs o with
  | nil => exact h
  | cons v r ih => exact ih (h.set o v) (o + 1)
/-- Other types' blocks stay. -/
theorem Bx.keptCells {w : World} {g : Nat} {cs : Array Value} {t t' : TypeId} (h : Bx w g cs t') (ht : t ≠ t') (o : Nat) (vs : List Value) : KeptT t w (w.setCells g o vs) := by
  induction vs generalizing w cs o with
  | nil => exact KeptT.refl _ _
  | cons v r ih => exact (KeptT.off h ht v).trans (ih (h.set o v) (o + 1))
end Go.Proofs.Ytkgdgnmobahhfaa
end

section
/- A block of traces that a call owns: one trace more, one less. -/
namespace Go.Proofs.Ytkgdgnmobahhfaa
open Go.RowKit

/-- The block g, with N places for traces, holds the traces ts, with lists of its own. -/
structure TrO (w : World) (base g N : Nat) (cur : Array Value) (ts : List (List Int × List Int)) : Prop where
  bx : Bx w g cur 38
  ge : base ≤ g
  sz : cur.size = N * 2
  le : ts.length ≤ N
  cap : N ≤ 1000000
  one : ∀ v, v ∈ cur.toList → v.oneCell' = true
  hd : ∀ j, j < ts.length → ∃ A1 c1 A2 c2, cur[j * 2]? = some (.slice A1 (tIn ts j).length c1) ∧ cur[j * 2 + 1]? = some (.slice A2 (tOut ts j).length c2) ∧ Owned w base (.slice A1 (tIn ts j).length c1) (tIn ts j) ∧ Owned w base (.slice A2 (tOut ts j).length c2) (tOut ts j)
  sm : ∀ j, j < ts.length → (tIn ts j).length ≤ 17592186044416 ∧ (tOut ts j).length ≤ 17592186044416

theorem Owned.capT {w : World} {base n c : Nat} {A : Option Addr} {xs : List Int} (h : Owned w base (.slice A n c) xs) : n ≤ c := by
  rcases h.2 with ⟨e, h1⟩ | ⟨g, cap, cur, e, _, _, h2, _⟩
  · cases e; omega
  · cases e; exact h2
theorem TrO.trs {w : World} {base g N : Nat} {cur : Array Value} {ts : List (List Int × List Int)} (h : TrO w base g N cur ts) : Trs w (some ⟨g, 0, none⟩) ts.length ts := by
  refine ⟨rfl, by have := h.le; have := h.cap; omega, fun _ => ⟨g, 0, rfl, h.bx.lt, fun j hj => ?_⟩⟩
  obtain ⟨A1, c1, A2, c2, e1, e2, o1, o2⟩ := h.hd j hj
  refine ⟨A1, _, c1, A2, _, c2, ?_, ?_, o1.capT, o2.capT, o1.ints (h.sm j hj).1, o2.ints (h.sm j hj).2⟩
  · rw [Nat.zero_add, h.bx.cell]; exact e1
  · rw [Nat.zero_add, h.bx.cell]; exact e2
theorem TrO.kept {w w' : World} {base g N : Nat} {cur : Array Value} {ts : List (List Int × List Int)} (h : TrO w base g N cur ts) (hb : Bx w' g cur 38) (hk : KeptT 3 w w') : TrO w' base g N cur ts :=
  ⟨hb, h.ge, h.sz, h.le, h.cap, h.one, fun j hj => by
    obtain ⟨A1, c1, A2, c2, e1, e2, o1, o2⟩ := h.hd j hj
    exact ⟨A1, c1, A2, c2, e1, e2, o1.keptT hk, o2.keptT hk⟩, h.sm⟩
theorem TrO.below {w w' : World} {base g N : Nat} {cur : Array Value} {ts : List (List Int × List Int)} (h : TrO w base g N cur ts) (hb : Below w.heap.size w w') : TrO w' base g N cur ts :=
  h.kept (h.bx.on hb) (KeptT.of_below hb)
theorem TrO.start {w : World} {base g N : Nat} {cur : Array Value} (hb : Bx w g cur 38) (hg : base ≤ g) (hs : cur.size = N * 2) (hN : N ≤ 1000000) (h1 : ∀ v, v ∈ cur.toList → v.oneCell' = true) : TrO w base g N cur [] :=
  ⟨hb, hg, hs, Nat.zero_le _, hN, h1, fun j hj => absurd hj (by simp), fun j hj => absurd hj (by simp)⟩

theorem tIn_get {ts : List (List Int × List Int)} {j : Nat} {t : List Int × List Int} (h : ts[j]? = some t) : tIn ts j = t.1 ∧ tOut ts j = t.2 := by
  unfold tIn tOut
  rw [List.getD_eq_getElem?_getD, h]
  exact ⟨rfl, rfl⟩
theorem ins_lt {ts : List (List Int × List Int)} {t : List Int × List Int} {p j : Nat} (hj : j < p) (hp : p ≤ ts.length) : (ts.take p ++ t :: ts.drop p)[j]? = ts[j]? := by
  rw [List.getElem?_append_left (by rw [List.length_take]; omega), List.getElem?_take_of_lt hj]
theorem ins_at {ts : List (List Int × List Int)} {t : List Int × List Int} {p : Nat} (hp : p ≤ ts.length) : (ts.take p ++ t :: ts.drop p)[p]? = some t := by
  rw [List.getElem?_append_right (by rw [List.length_take]; omega), List.length_take, Nat.min_eq_left hp, Nat.sub_self]
  rfl
theorem ins_gt {ts : List (List Int × List Int)} {t : List Int × List Int} {p j : Nat} (hj : p ≤ j) (hp : p ≤ ts.length) : (ts.take p ++ t :: ts.drop p)[j + 1]? = ts[j]? := by
  rw [List.getElem?_append_right (by rw [List.length_take]; omega), List.length_take, Nat.min_eq_left hp, show j + 1 - p = (j - p) + 1 by omega]
  rw [List.getElem?_cons_succ, List.getElem?_drop]
  congr 1
  omega
theorem ins_len {ts : List (List Int × List Int)} {t : List Int × List Int} {p : Nat} (hp : p ≤ ts.length) : (ts.take p ++ t :: ts.drop p).length = ts.length + 1 := by
  rw [List.length_append, List.length_take, List.length_cons, List.length_drop]
  omega
theorem tIn_congr {ts us : List (List Int × List Int)} {j k : Nat} (h : ts[j]? = us[k]?) : tIn ts j = tIn us k ∧ tOut ts j = tOut us k := by
  unfold tIn tOut
  rw [List.getD_eq_getElem?_getD, List.getD_eq_getElem?_getD, h]
  exact ⟨rfl, rfl⟩

/-- One trace more. -/
theorem TrO.ins {w W : World} {base g N : Nat} {cur cur' : Array Value} {ts : List (List Int × List Int)} (h : TrO w base g N cur ts) {p : Nat} (hp : p ≤ ts.length) (hroom : ts.length + 1 ≤ N) {xs ys : List Int} {B1 B2 : Option Addr} {d1 d2 : Nat}
    (hb : Bx W g cur' 38) (hs : cur'.size = cur.size) (hk : KeptT 3 w W) (h1 : ∀ v, v ∈ cur'.toList → v.oneCell' = true)
    (ox : Owned w base (.slice B1 xs.length d1) xs) (oy : Owned w base (.slice B2 ys.length d2) ys) (hx : xs.length ≤ 17592186044416) (hy : ys.length ≤ 17592186044416)
    (c1 : ∀ k, k < p * 2 → cur'[k]? = cur[k]?) (c2 : cur'[p * 2]? = some (.slice B1 xs.length d1)) (c3 : cur'[p * 2 + 1]? = some (.slice B2 ys.length d2)) (c4 : ∀ k, p * 2 ≤ k → k < ts.length * 2 → cur'[k + 2]? = cur[k]?) :
    TrO W base g N cur' (ts.take p ++ (xs, ys) :: ts.drop p) := by
  have hl := ins_len (t := (xs, ys)) hp
  refine ⟨hb, h.ge, by rw [hs]; exact h.sz, by rw [hl]; exact hroom, h.cap, h1, fun j hj => ?_, fun j hj => ?_⟩
  · rw [hl] at hj
    rcases Nat.lt_trichotomy j p with e | e | e
    · obtain ⟨A1, k1, A2, k2, e1, e2, o1, o2⟩ := h.hd j (by omega)
      obtain ⟨t1, t2⟩ := tIn_congr (ins_lt (ts := ts) (t := (xs, ys)) e hp)
      rw [t1, t2]
      exact ⟨A1, k1, A2, k2, by rw [c1 _ (by omega)]; exact e1, by rw [c1 _ (by omega)]; exact e2, o1.keptT hk, o2.keptT hk⟩
    · obtain ⟨t1, t2⟩ := tIn_get (ins_at (ts := ts) (t := (xs, ys)) hp)
      subst e
      rw [t1, t2]
      exact ⟨B1, d1, B2, d2, c2, c3, ox.keptT hk, oy.keptT hk⟩
    · obtain ⟨j, rfl⟩ : ∃ q, j = q + 1 := ⟨j - 1, by omega⟩
      obtain ⟨A1, k1, A2, k2, e1, e2, o1, o2⟩ := h.hd j (by omega)
      obtain ⟨t1, t2⟩ := tIn_congr (ins_gt (ts := ts) (t := (xs, ys)) (p := p) (j := j) (by omega) hp)
      rw [t1, t2]
      refine ⟨A1, k1, A2, k2, ?_, ?_, o1.keptT hk, o2.keptT hk⟩
      · rw [show (j + 1) * 2 = j * 2 + 2 by omega, c4 _ (by omega) (by omega)]; exact e1
      · rw [show (j + 1) * 2 + 1 = (j * 2 + 1) + 2 by omega, c4 _ (by omega) (by omega)]; exact e2
  · rw [hl] at hj
    rcases Nat.lt_trichotomy j p with e | e | e
    · obtain ⟨t1, t2⟩ := tIn_congr (ins_lt (ts := ts) (t := (xs, ys)) e hp)
      rw [t1, t2]; exact h.sm j (by omega)
    · obtain ⟨t1, t2⟩ := tIn_get (ins_at (ts := ts) (t := (xs, ys)) hp)
      subst e
      rw [t1, t2]; exact ⟨hx, hy⟩
    · obtain ⟨j, rfl⟩ : ∃ q, j = q + 1 := ⟨j - 1, by omega⟩
      obtain ⟨t1, t2⟩ := tIn_congr (ins_gt (ts := ts) (t := (xs, ys)) (p := p) (j := j) (by omega) hp)
      rw [t1, t2]; exact h.sm j (by omega)
/-- One trace less. -/
theorem TrO.del {w W : World} {base g N : Nat} {cur cur' : Array Value} {ts : List (List Int × List Int)} (h : TrO w base g N cur ts) {p : Nat} (hp : p < ts.length)
    (hb : Bx W g cur' 38) (hs : cur'.size = cur.size) (hk : KeptT 3 w W) (h1 : ∀ v, v ∈ cur'.toList → v.oneCell' = true)
    (c1 : ∀ k, k < p * 2 → cur'[k]? = cur[k]?) (c4 : ∀ k, (p + 1) * 2 ≤ k → k < ts.length * 2 → cur'[k - 2]? = cur[k]?) :
    TrO W base g N cur' (ts.eraseIdx p) := by
  have hl : (ts.eraseIdx p).length = ts.length - 1 := by rw [List.length_eraseIdx, if_pos hp]
  have hle := h.le
  refine ⟨hb, h.ge, by rw [hs]; exact h.sz, by rw [hl]; omega, h.cap, h1, fun j hj => ?_, fun j hj => ?_⟩
  · rw [hl] at hj
    rcases Nat.lt_or_ge j p with e | e
    · obtain ⟨A1, k1, A2, k2, e1, e2, o1, o2⟩ := h.hd j (by omega)
      obtain ⟨t1, t2⟩ := tIn_congr (ts := ts.eraseIdx p) (us := ts) (j := j) (k := j) (by rw [List.getElem?_eraseIdx, if_pos e])
      rw [t1, t2]
      exact ⟨A1, k1, A2, k2, by rw [c1 _ (by omega)]; exact e1, by rw [c1 _ (by omega)]; exact e2, o1.keptT hk, o2.keptT hk⟩
    · obtain ⟨A1, k1, A2, k2, e1, e2, o1, o2⟩ := h.hd (j + 1) (by omega)
      obtain ⟨t1, t2⟩ := tIn_congr (ts := ts.eraseIdx p) (us := ts) (j := j) (k := j + 1) (by rw [List.getElem?_eraseIdx, if_neg (by omega)])
      rw [t1, t2]
      refine ⟨A1, k1, A2, k2, ?_, ?_, o1.keptT hk, o2.keptT hk⟩
      · have := c4 ((j + 1) * 2) (by omega) (by omega)
        rw [show (j + 1) * 2 - 2 = j * 2 by omega] at this
        rw [this]; exact e1
      · have := c4 ((j + 1) * 2 + 1) (by omega) (by omega)
        rw [show (j + 1) * 2 + 1 - 2 = j * 2 + 1 by omega] at this
        rw [this]; exact e2
  · rw [hl] at hj
    rcases Nat.lt_or_ge j p with e | e
    · obtain ⟨t1, t2⟩ := tIn_congr (ts := ts.eraseIdx p) (us := ts) (j := j) (k := j) (by rw [List.getElem?_eraseIdx, if_pos e])
      rw [t1, t2]; exact h.sm j (by omega)
    · obtain ⟨t1, t2⟩ := tIn_congr (ts := ts.eraseIdx p) (us := ts) (j := j) (k := j + 1) (by rw [List.getElem?_eraseIdx, if_neg (by omega)])
      rw [t1, t2]; exact h.sm (j + 1) (by omega)

theorem ovr_mem {cur : Array Value} {o : Nat} {vs : List Value} : ∀ v, v ∈ (ovr cur o vs).toList → v ∈ cur.toList ∨ v ∈ vs := by
  induction vs generalizing cur o with
  | nil => exact fun v h => .inl h
  | cons u r ih =>
    intro v h
    rw [ovr] at h
    rcases ih v h with h | h
    · rw [Array.toList_setIfInBounds] at h
      rcases List.mem_or_eq_of_mem_set h with h | h
      · exact .inl h
      · exact .inr (by rw [h]; exact List.mem_cons_self)
    · exact .inr (List.mem_cons_of_mem _ h)
theorem slc_mem {cur : Array Value} {a b : Nat} {v : Value} (h : v ∈ (cur.toList.take a).drop b) : v ∈ cur.toList := List.mem_of_mem_take (List.mem_of_mem_drop h)
theorem slc_get {cur : Array Value} {a b k : Nat} (h : b + k < a) : ((cur.toList.take a).drop b)[k]? = cur[b + k]? := by
  rw [List.getElem?_drop, List.getElem?_take_of_lt h, Array.getElem?_toList]
theorem slc_len {cur : Array Value} {a b : Nat} (h : a ≤ cur.size) : ((cur.toList.take a).drop b).length = a - b := by
  rw [List.length_drop, List.length_take, Array.length_toList, Nat.min_eq_left h]

/-- After slices.Insert in the middle. -/
theorem TrO.shifted {w w1 : World} {base g N : Nat} {cur : Array Value} {ts : List (List Int × List Int)} (h : TrO w base g N cur ts) {p : Nat} (hp : p ≤ ts.length) (hroom : ts.length + 1 ≤ N) {xs ys : List Int} {B1 B2 : Option Addr} {d1 d2 : Nat}
    (ox : Owned w base (.slice B1 xs.length d1) xs) (oy : Owned w base (.slice B2 ys.length d2) ys) (hx : xs.length ≤ 17592186044416) (hy : ys.length ≤ 17592186044416)
    (hw : w1 = (w.drew.setCells g ((p + 1) * 2) ((cur.toList.take (ts.length * 2)).drop (p * 2))).setCells g (p * 2) [.slice B1 xs.length d1, .slice B2 ys.length d2]) :
    ∃ cur', TrO w1 base g N cur' (ts.take p ++ (xs, ys) :: ts.drop p) := by
  have hsz := h.sz
  have hle := h.le
  have hl := slc_len (cur := cur) (a := ts.length * 2) (b := p * 2) (by omega)
  have hb1 := (h.bx.drewN 1).ovr ((p + 1) * 2) ((cur.toList.take (ts.length * 2)).drop (p * 2))
  have hb2 := hb1.ovr (p * 2) [.slice B1 xs.length d1, .slice B2 ys.length d2]
  have hk : KeptT 3 w w1 := by
    rw [hw]
    exact ((KeptT.drewN _ w 1).trans ((h.bx.drewN 1).keptCells (by decide) _ _)).trans (hb1.keptCells (by decide) _ _)
  have s1 : (ovr cur ((p + 1) * 2) ((cur.toList.take (ts.length * 2)).drop (p * 2))).size = cur.size := ovr_size _ _ _
  refine ⟨_, h.ins hp hroom (by rw [hw]; exact hb2) (by rw [ovr_size, s1]) hk ?_ ox oy hx hy (fun k hk => ?_) ?_ ?_ (fun k hk1 hk2 => ?_)⟩
  · intro v hv
    rcases ovr_mem v hv with hv | hv
    · rcases ovr_mem v hv with hv | hv
      · exact h.one v hv
      · exact h.one v (slc_mem hv)
    · simp at hv
      rcases hv with rfl | rfl <;> rfl
  · rw [ovr_out (.inl hk), ovr_out (.inl (by omega))]
  · have := ovr_in (cur := ovr cur ((p + 1) * 2) ((cur.toList.take (ts.length * 2)).drop (p * 2))) (o := p * 2) (j := 0) (vs := [.slice B1 xs.length d1, .slice B2 ys.length d2]) (by rw [s1, hsz]; simp; omega) (by simp)
    simpa using this
  · have := ovr_in (cur := ovr cur ((p + 1) * 2) ((cur.toList.take (ts.length * 2)).drop (p * 2))) (o := p * 2) (j := 1) (vs := [.slice B1 xs.length d1, .slice B2 ys.length d2]) (by rw [s1, hsz]; simp; omega) (by simp)
    simpa using this
  · rw [ovr_out (.inr (by simp; omega))]
    have := ovr_in (cur := cur) (o := (p + 1) * 2) (j := k - p * 2) (vs := (cur.toList.take (ts.length * 2)).drop (p * 2)) (by rw [hl, hsz]; omega) (by rw [hl]; omega)
    rw [show (p + 1) * 2 + (k - p * 2) = k + 2 by omega] at this
    rw [this, slc_get (by omega)]
    congr 1
    omega
/-- After slices.Insert, or append, at the end. -/
theorem TrO.pushed {w w1 : World} {base g N : Nat} {cur : Array Value} {ts : List (List Int × List Int)} (h : TrO w base g N cur ts) (hroom : ts.length + 1 ≤ N) {xs ys : List Int} {B1 B2 : Option Addr} {d1 d2 : Nat}
    (ox : Owned w base (.slice B1 xs.length d1) xs) (oy : Owned w base (.slice B2 ys.length d2) ys) (hx : xs.length ≤ 17592186044416) (hy : ys.length ≤ 17592186044416)
    (hw : w1 = w.setRow g (cur.toList.take (ts.length * 2) ++ Value.slice B1 xs.length d1 :: Value.slice B2 ys.length d2 :: cur.toList.drop (ts.length * 2 + 2)).toArray) :
    ∃ cur', TrO w1 base g N cur' (ts ++ [(xs, ys)]) := by
  have hsz := h.sz
  have hle := h.le
  have hk : KeptT 3 w w1 := by rw [hw]; exact h.bx.keptRow (by decide) _
  have hcl : cur.toList.length = N * 2 := by rw [Array.length_toList]; exact hsz
  have hT : (cur.toList.take (ts.length * 2)).length = ts.length * 2 := by rw [List.length_take, hcl]; omega
  have := h.ins (W := w1) (cur' := (cur.toList.take (ts.length * 2) ++ Value.slice B1 xs.length d1 :: Value.slice B2 ys.length d2 :: cur.toList.drop (ts.length * 2 + 2)).toArray) (p := ts.length) (Nat.le_refl _) hroom (by rw [hw]; exact h.bx.row _)
    (by simp [hsz]; omega) hk
    (by
      intro v hv
      rw [List.toList_toArray] at hv
      rcases List.mem_append.1 hv with hv | hv
      · exact h.one v (List.mem_of_mem_take hv)
      · rcases List.mem_cons.1 hv with rfl | hv
        · rfl
        · rcases List.mem_cons.1 hv with rfl | hv
          · rfl
          · exact h.one v (List.mem_of_mem_drop hv)) ox oy hx hy
    (fun k hk => by rw [List.getElem?_toArray, List.getElem?_append_left (by omega), List.getElem?_take_of_lt hk, Array.getElem?_toList])
    (by rw [List.getElem?_toArray, List.getElem?_append_right (by omega), hT, Nat.sub_self]; rfl)
    (by rw [List.getElem?_toArray, List.getElem?_append_right (by omega), hT, show ts.length * 2 + 1 - ts.length * 2 = 1 by omega]; rfl)
    (fun k h1 h2 => by omega)
  rw [List.take_length, List.drop_length] at this
  exact ⟨_, this⟩
/-- After slices.Delete. -/
theorem TrO.deleted {w w1 : World} {base g N : Nat} {cur : Array Value} {ts : List (List Int × List Int)} (h : TrO w base g N cur ts) {p : Nat} (hp : p < ts.length)
    (hw : w1 = (w.drew.setCells g (0 + p * 2) ((cur.toList.take (ts.length * 2)).drop ((p + 1) * 2))).setCells g ((ts.length - 1) * 2) [.slice none 0 0, .slice none 0 0]) :
    ∃ cur', TrO w1 base g N cur' (ts.eraseIdx p) := by
  have hsz := h.sz
  have hle := h.le
  have hl := slc_len (cur := cur) (a := ts.length * 2) (b := (p + 1) * 2) (by omega)
  have hb1 := (h.bx.drewN 1).ovr (0 + p * 2) ((cur.toList.take (ts.length * 2)).drop ((p + 1) * 2))
  have hb2 := hb1.ovr ((ts.length - 1) * 2) [.slice none 0 0, .slice none 0 0]
  have hk : KeptT 3 w w1 := by
    rw [hw]
    exact ((KeptT.drewN _ w 1).trans ((h.bx.drewN 1).keptCells (by decide) _ _)).trans (hb1.keptCells (by decide) _ _)
  have s1 : (ovr cur (0 + p * 2) ((cur.toList.take (ts.length * 2)).drop ((p + 1) * 2))).size = cur.size := ovr_size _ _ _
  refine ⟨_, h.del hp (by rw [hw]; exact hb2) (by rw [ovr_size, s1]) hk ?_ (fun k hk => ?_) (fun k hk1 hk2 => ?_)⟩
  · intro v hv
    rcases ovr_mem v hv with hv | hv
    · rcases ovr_mem v hv with hv | hv
      · exact h.one v hv
      · exact h.one v (slc_mem hv)
    · simp at hv
      rw [hv]; rfl
  · rw [ovr_out (.inl (by omega)), ovr_out (.inl (by omega))]
  · rw [ovr_out (.inl (by omega))]
    have := ovr_in (cur := cur) (o := 0 + p * 2) (j := k - (p + 1) * 2) (vs := (cur.toList.take (ts.length * 2)).drop ((p + 1) * 2)) (by rw [hl, hsz]; omega) (by rw [hl]; omega)
    rw [show 0 + p * 2 + (k - (p + 1) * 2) = k - 2 by omega] at this
    rw [this, slc_get (by omega)]
    congr 1
    omega
end Go.Proofs.Ytkgdgnmobahhfaa
end

section
/- The place of a trace; a trace in new memory. -/
namespace Go.Proofs.Ytkgdgnmobahhfaa
open Go.RowKit Go.Shelf

theorem pins1 (A1 A2 B : Option Addr) (n1 c1 n2 c2 m d : Nat) (xs ys : List Int) (w : World) (hx : Ints w A1 n1 xs) (hy : Ints w B m ys) :
    Calls Try.prog 122 #[.agg #[.slice A1 n1 c1, .slice A2 n2 c2], .slice B m d] w fun e w' => e = .returned (.int .i64 (shlex xs ys)) ∧ Below w.heap.size w w' := by
  have hb0 := alloc_below w (.cells #[.slice A1 n1 c1, .slice A2 n2 c2] 38)
  have HB := Lib.hid hb0
  have HX := Lib.hid (hx.below hb0)
  have HY := Lib.hid (hy.below hb0)
  clear hx hy hb0
  go_enter Try.func122, Try.ntmps122
  go_wp2_with (go_at_call 57; refine (wcompare _ _ _ _ _ _ _ _ _ HX.out HY.out).mono ?_; rintro e w' ⟨rfl, q, rfl⟩)
  go_ret
  exact ⟨rfl, below_drewN HB.out q⟩
theorem entI1 : ∀ args w, (callFunc 122 args).run Try.prog w = .ok (.enter 122 args) w := enters_of Try.func122 (by kernel_rfl) rfl

/-- The place of a word among traces in shortlex order. -/
theorem pplace (A Z : Option Addr) (n c m d : Nat) (ts : List (List Int × List Int)) (ws : List Int) (w : World) (hT : Trs w A n ts) (hW : Ints w Z m ws) (hS : Srt ts) :
    Calls Try.prog 103 #[.slice A n c, .slice Z m d, .func (.func 122) #[] #[]] w fun e w' => ∃ (i : Nat) (v : Value), e = .returned (.tuple #[.int .i64 i, v]) ∧ i ≤ n ∧ Hid (∀ j, j < i → shlex (tIn ts j) ws < 0) ∧ Hid (∀ j, i ≤ j → j < n → 0 ≤ shlex (tIn ts j) ws) ∧ Below w.heap.size w w' :=
  pbsw 122 Z m d (fun j => shlex (tIn ts j) ws) A n c ts w entI1 hT
    (fun j hj A1 n1 c1 A2 n2 c2 W hb hi => pins1 A1 A2 Z n1 c1 n2 c2 m d _ ws W hi (hW.below hb))
    (fun a b hab hb h => by
      by_cases e : a = b
      · rw [e]; exact h
      · exact (shlex_trans (tIn ts a) (tIn ts b) ws).2 (hS a b (by omega) (by rw [hT.1]; exact hb)) (by omega))

/-- The result of copied. -/
def CpyE (n1 n2 : Nat) (xs ys : List Int) (w : World) (r : Ending) (w' : World) : Prop :=
  ∃ (B1 B2 : Option Addr) (d1 d2 : Nat), r = .returned (.agg #[.slice B1 n1 d1, .slice B2 n2 d2]) ∧ Owned w' w.heap.size (.slice B1 n1 d1) xs ∧ Owned w' w.heap.size (.slice B2 n2 d2) ys ∧ Below w.heap.size w w'

set_option linter.unusedSimpArgs false in
set_option linter.unusedVariables false in
set_option maxHeartbeats 4000000 in
set_option maxRecDepth 100000 in
theorem pcopied16 (A1 A2 : Option Addr) (n1 c1 n2 c2 : Nat) (xs ys : List Int) (w : World) (hx : Ints w A1 n1 xs) (hy : Ints w A2 n2 ys) :
    Calls Try.prog 105 #[.agg #[.slice A1 n1 c1, .slice A2 n2 c2]] w fun r w' => CpyE n1 n2 xs ys w r w' := by
  obtain ⟨w0, hw0⟩ : ∃ w0, w0 = (w.alloc (.cells #[.slice A1 n1 c1, .slice A2 n2 c2] 38)).alloc (.cells #[.slice none 0 0, .slice none 0 0] 38) := ⟨_, rfl⟩
  obtain ⟨hb0, m1, m2, hs0⟩ := bxs2 w #[.slice A1 n1 c1, .slice A2 n2 c2] #[.slice none 0 0, .slice none 0 0] 38 38 w0 hw0
  have HM1 := Lib.hid (fun (W : World) (h : Below w0.heap.size w0 W) => m1.on h)
  have HM2 := Lib.hid (fun (W : World) (h : Below w0.heap.size w0 W) => m2.on h)
  have HX := Lib.hid (fun (W : World) (h : Below w0.heap.size w0 W) => (hx.below hb0).below h)
  have HY := Lib.hid (fun (W : World) (h : Below w0.heap.size w0 W) => (hy.below hb0).below h)
  have HB0 := Lib.hid hb0
  have HW0 := Lib.hid hw0
  have HZ0 := Lib.hid hs0
  have HS := Lib.hid (show ∀ W, Below w0.heap.size w0 W → W.cell? ⟨w.heap.size, 0, none⟩ = some (.slice A1 n1 c1) ∧ W.cell? ⟨w.heap.size, 1, none⟩ = some (.slice A2 n2 c2) from fun W h => ⟨by have := (m1.on h).cell 0; simpa using this, by have := (m1.on h).cell 1; simpa using this⟩)
  clear hw0 hb0 m1 m2 hs0 hx hy
  go_enter Try.func105, Try.ntmps105
  go_upto_region 1 with fail
  rw [← HW0.out]
  have hbf : Below w0.heap.size w0 w0.drew := below_drewN (Below.refl _ _) 1
  refine wp_region_heldX (X := fun k => ([7] : List Nat).contains k) (S := fun W => W.cell? ⟨w.heap.size, 0, none⟩ = some (.slice A1 n1 c1) ∧ W.cell? ⟨w.heap.size, 1, none⟩ = some (.slice A2 n2 c2)) (by kernel_rfl) ?_
  generalize w0.drew = wd at hbf ⊢
  refine wpAnyX_pure (i := 0) (v := ?_) rfl (by kernel_rfl) (by kernel_rfl) (by kernel_rfl) (fun _ _ _ h => h) (Or.inl ⟨by rfl, ?_⟩) ?_
  rotate_left
  · (intro W _; go_simp; try with_reducible rfl)
  (try simp only [Act.put, List.getElem_toArray, List.getElem_cons_zero, List.getElem_cons_succ, List.setIfInBounds_toArray, List.set_cons_zero, List.set_cons_succ])
  refine wpAnyX_takeL (L := [7]) (i := 1) (v := ?_) rfl (by kernel_rfl) (by kernel_rfl) (by kernel_rfl) (by kernel_rfl) (fun _ _ _ h => h) (Or.inl ⟨by rfl, ?_⟩) (HS.out _ hbf) ?_
  rotate_left
  · (intro W hSW; (try dsimp only at hSW); obtain ⟨z0, z1⟩ := hSW; go_simp; try with_reducible rfl)
  (try simp only [Act.put, List.getElem_toArray, List.getElem_cons_zero, List.getElem_cons_succ, List.setIfInBounds_toArray, List.set_cons_zero, List.set_cons_succ])
  refine wpAnyX_pure (i := 3) (v := ?_) rfl (by kernel_rfl) (by kernel_rfl) (by kernel_rfl) (fun _ _ _ h => h) (Or.inl ⟨by rfl, ?_⟩) ?_
  rotate_left
  · (intro W _; go_simp; try with_reducible rfl)
  (try simp only [Act.put, List.getElem_toArray, List.getElem_cons_zero, List.getElem_cons_succ, List.setIfInBounds_toArray, List.set_cons_zero, List.set_cons_succ])
  refine wpAnyX_takeL (L := [7]) (i := 4) (v := ?_) rfl (by kernel_rfl) (by kernel_rfl) (by kernel_rfl) (by kernel_rfl) (fun _ _ _ h => h) (Or.inl ⟨by rfl, ?_⟩) (HS.out _ hbf) ?_
  rotate_left
  · (intro W hSW; (try dsimp only at hSW); obtain ⟨z0, z1⟩ := hSW; go_simp; try with_reducible rfl)
  (try simp only [Act.put, List.getElem_toArray, List.getElem_cons_zero, List.getElem_cons_succ, List.setIfInBounds_toArray, List.set_cons_zero, List.set_cons_succ])
  refine wpAnyX_one (i := 2) rfl (by kernel_rfl) (fun K hK => ?_)
  go_simp
  go_at_call 68
  refine (sclone A1 n1 c1 _ _ (HX.out _ hbf)).mono ?_
  rintro r w5 ⟨B1, d1, rfl, o5, b9⟩
  have g5 := o5.lower (base' := w.heap.size) (Nat.le_trans (by have := HZ0.out; omega) hbf.size)
  have hbf := bt hbf b9
  clear b9
  refine hK.out _ _ (fun _ _ => HS.out _ hbf) ?_
  (try simp only [Act.put, List.getElem_toArray, List.getElem_cons_zero, List.getElem_cons_succ, List.setIfInBounds_toArray, List.set_cons_zero, List.set_cons_succ])
  refine wpAnyX_one (i := 5) rfl (by kernel_rfl) (fun K hK => ?_)
  go_simp
  go_at_call 68
  refine (sclone A2 n2 c2 _ _ (HY.out _ hbf)).mono ?_
  rintro r w6 ⟨B2, d2, rfl, o6, b9⟩
  have g6 := o6.lower (base' := w.heap.size) (Nat.le_trans (by have := HZ0.out; omega) hbf.size)
  have g5 := g5.keptT (KeptT.of_below b9)
  have hbf := bt hbf b9
  clear b9
  refine hK.out _ _ (fun _ _ => HS.out _ hbf) ?_
  (try simp only [Act.put, List.getElem_toArray, List.getElem_cons_zero, List.getElem_cons_succ, List.setIfInBounds_toArray, List.set_cons_zero, List.set_cons_succ])
  refine wpAnyX_pure (i := 6) (v := ?_) rfl (by kernel_rfl) (by kernel_rfl) (by kernel_rfl) (fun _ _ _ h => h) (Or.inl ⟨by rfl, ?_⟩) ?_
  rotate_left
  · (intro W _; go_simp; try with_reducible rfl)
  (try simp only [Act.put, List.getElem_toArray, List.getElem_cons_zero, List.getElem_cons_succ, List.setIfInBounds_toArray, List.set_cons_zero, List.set_cons_succ])
  have m6 := HM2.out _ hbf
  refine wpAnyX_one (i := 7) rfl (by kernel_rfl) (fun K hK => ?_)
  refine wp_store_row 38 _ _ rfl (w.heap.size + 1) (#[.slice B1 n1 d1, .slice B2 n2 d2]) rfl rfl 38 (#[.slice none 0 0, .slice none 0 0]) m6 (by kernel_rfl) (by rfl) (by simp [Value.oneCell']) (hK.out _ _ (fun h => absurd h (by decide)) ?_)
  (try simp only [Act.put, List.getElem_toArray, List.getElem_cons_zero, List.getElem_cons_succ, List.setIfInBounds_toArray, List.set_cons_zero, List.set_cons_succ])
  refine wpAnyX_done (by kernel_rfl) ?_ _
  have HR := Lib.hid (m6.row #[.slice B1 n1 d1, .slice B2 n2 d2])
  have HO1 := Lib.hid (g5.keptT (m6.keptRow (t := 3) (by decide) #[.slice B1 n1 d1, .slice B2 n2 d2]))
  have HO2 := Lib.hid (g6.keptT (m6.keptRow (t := 3) (by decide) #[.slice B1 n1 d1, .slice B2 n2 d2]))
  have HBX := Lib.hid (below_setRow (bt HB0.out hbf) (by omega : w.heap.size ≤ w.heap.size + 1) #[.slice B1 n1 d1, .slice B2 n2 d2])
  clear hbf g5 g6 m6 o5 o6
  go_wp2_with fail
  (try rw [Exit.noGoto_ret])
  refine bodyPost_ret (results_cell_row (by rfl) _ _ (w.heap.size + 1) 38 _ (0, 0) _ rfl HR.out Try.underlying38 rfl (by kernel_rfl)) rfl ?_
  exact ⟨B1, B2, d1, d2, rfl, HO1.out, HO2.out, HBX.out⟩
end Go.Proofs.Ytkgdgnmobahhfaa
end

section
/- slices.Insert of one trace, in place. -/
namespace Go.Proofs.Ytkgdgnmobahhfaa
open Go.RowKit Go.Shelf Go.Lib

theorem inft : (Try.prog.info? 38).map (·.size) = some 2 := by kernel_rfl
theorem Bx.shape {w : World} {g : Nat} {cs : Array Value} {t : TypeId} (h : Bx w g cs t) : w.shape? g = some (t, cs.size) := by unfold World.shape?; rw [h]
theorem trace_size (w : World) : (Go.sizeOf 38).run Try.prog w = .ok 2 w := by
  have := inft
  cases hq : Try.prog.info? 38 with
  | none => simp [hq] at this
  | some i =>
    have hi : i.size = 2 := by simpa [hq] using this
    simp [Go.sizeOf, Go.typeInfo, hq, hi]

set_option linter.unusedSimpArgs false in
set_option linter.unusedVariables false in
set_option maxHeartbeats 4000000 in
set_option maxRecDepth 100000 in
theorem pins_shift (b n c i vb : Nat) (cur : Array Value) (x1 x2 : Value) (w : World) (hb : Bx w b cur 38) (hv : Bx w vb #[x1, x2] 38) (hvb : vb ≠ b) (hi : i < n) (hroom : n + 1 ≤ c) (hc : c ≤ 1000000) (hsz : cur.size = c * 2)
    (h1c : ∀ v, v ∈ cur.toList → v.oneCell' = true) (h1 : x1.oneCell' = true) (h2 : x2.oneCell' = true) :
    Calls Try.prog 123 #[.slice (some ⟨b, 0, none⟩) n c, .int .i64 i, .slice (some ⟨vb, 0, none⟩) 1 1] w fun e w' =>
      e = .returned (.slice (some ⟨b, 0, none⟩) (n + 1) c) ∧ w' = (w.drew.setCells b ((i + 1) * 2) ((cur.toList.take (n * 2)).drop (i * 2))).setCells b (i * 2) [x1, x2] := by
  obtain ⟨cs, hcs⟩ : ∃ cs, cs = (cur.toList.take (n * 2)).drop (i * 2) := ⟨_, rfl⟩
  have hcl : cs.length = (n - i) * 2 := by rw [hcs, List.length_drop, List.length_take, Array.length_toList, hsz, Nat.min_eq_left (by omega)]; omega
  have hca : ∀ j v, cs[j]? = some v → cur[i * 2 + j]? = some v := fun j v h => by
    have hj := (List.getElem?_eq_some_iff.1 h).1
    rw [hcs, List.getElem?_drop, List.getElem?_take_of_lt (by omega), Array.getElem?_toList] at h
    exact h
  have hc1 : ∀ v, v ∈ cs → v.oneCell' = true := fun v hv => h1c v (by rw [hcs] at hv; exact List.mem_of_mem_take (List.mem_of_mem_drop hv))
  rw [← hcs]
  have hcell : ∀ j, w.cell? ⟨b, j, none⟩ = cur[j]? := fun j => hb.cell j
  have hov : ∀ lb cb, (callFunc 128 #[.slice (some ⟨vb, 0, none⟩) 1 1, .slice (some ⟨b, (i + 1) * 2, none⟩) lb cb]).run Try.prog w = .ok (.value (.bool false)) w := fun lb cb => by
    rw [run_callFunc_extern Try.func128 (by kernel_rfl) (by kernel_rfl) (by kernel_rfl) (e := Extern.SlicesOverlaps.overlaps #[22, 22] #[4]) (by kernel_rfl),
      Lib.run_overlaps_apart w 22 4 38 Try.underlying22 2 trace_size ⟨vb, 0, none⟩ ⟨b, (i + 1) * 2, none⟩ 1 1 lb cb hvb _ _ _ _ hv.shape hb.shape (by omega) (hv.free 0) (hv.free _)]
    rfl
  have hcp1 : ∀ ty dc sc, (Builtin.copy_ #[22, 22] ty #[.slice (some ⟨b, (i + 1) * 2, none⟩) (n - i) dc, .slice (some ⟨b, i * 2, none⟩) (n + 1 - i) sc]).run Try.prog w.drew = .ok (goInt (n - i : Nat)) (w.drew.setCells b ((i + 1) * 2) cs) := fun ty dc sc =>
    run_copy_k w.drew _ _ ty 38 2 b ((i + 1) * 2) (n - i) dc ⟨b, i * 2, none⟩ (n + 1 - i) sc (n - i) cs Try.underlying22 inft (by simp only [Nat.min_def]; split <;> omega) hcl
      (fun j v hj => by rw [Addr.add_lit]; exact (hcell _).trans (hca j v hj))
      (fun j hj => by
        have : w.cell? ⟨b, (i + 1) * 2 + j, none⟩ = cur[(i + 1) * 2 + j]? := hcell _
        show (w.cell? _).isSome = true
        rw [this, Array.getElem?_eq_getElem (by omega)]; rfl)
      (fun j hj => hb.free _) hc1
  obtain ⟨W1, hW1⟩ : ∃ W1, W1 = w.drew.setCells b ((i + 1) * 2) cs := ⟨_, rfl⟩
  have hb1 : Bx W1 b (ovr cur ((i + 1) * 2) cs) 38 := by rw [hW1]; exact (hb.drewN 1).ovr _ _
  have hcp2 : ∀ (W : World), (∀ x, W.cell? x = W1.cell? x) → (∀ x, W.frozen? x = W1.frozen? x) → ∀ ty dc, (Builtin.copy_ #[22, 22] ty #[.slice (some ⟨b, i * 2, none⟩) (n + 1 - i) dc, .slice (some ⟨vb, 0, none⟩) 1 1]).run Try.prog W = .ok (goInt 1) (W.setCells b (i * 2) [x1, x2]) := fun W hWc hWf ty dc =>
    run_copy_k W _ _ ty 38 2 b (i * 2) (n + 1 - i) dc ⟨vb, 0, none⟩ 1 1 1 [x1, x2] Try.underlying22 inft (by simp only [Nat.min_def]; split <;> omega) rfl
      (fun j v hj => by
        rw [Addr.add_lit, hWc, hW1, World.cell?_setCells_out b _ _ _ _ (fun h _ => absurd h hvb)]
        rw [Nat.zero_add]
        have : w.cell? ⟨vb, j, none⟩ = #[x1, x2][j]? := hv.cell j
        refine this.trans ?_
        rw [← hj]; simp)
      (fun j hj => by
        rw [hWc, hb1.cell, Array.getElem?_eq_getElem (by rw [ovr_size]; simp at hj; omega)]; rfl)
      (fun j hj => by rw [hWf]; exact hb1.free _) (by simp [h1, h2])
  rw [← hW1] at hcp1
  have hz2 : ¬ ((i : Int) = (n : Int)) := by omega
  have hw1 : IntKind.i64.wrap ((i : Int) + 1) = (i : Int) + 1 := by rw [IntKind.wrap_i64]; omega
  have hw2 : IntKind.i64.wrap ((n : Int) + 1) = (n : Int) + 1 := by rw [IntKind.wrap_i64]; omega
  have g1 : (0 : Int) ≤ (i : Int) + 1 := by omega
  have g2 : ¬ (c = i + 1) := by omega
  have g3 : (i : Int) ≤ (n : Int) + 1 := by omega
  have g4 : ¬ (c = i) := by omega
  have g5 : ¬ ((c : Int) < (n : Int) + 1) := by omega
  have g6 : (n : Int) + 1 ≤ (c : Int) := by omega
  have g7 : (i : Int) ≤ (n : Int) := by omega
  have g8 : (i : Int) + 1 ≤ (n : Int) + 1 := by omega
  have mixed : Try.prog.follows Departure.mixedOrders = true := by kernel_rfl
  have HW1 := Lib.hid hW1
  clear hb1 hW1 hcell hb hv
  go_enter Try.func123, Try.ntmps123
  go_wp2_with (simp only [hov])
  go_region_law_o (refine step_copy_runI rfl _ _ 22 22 rfl _ _ (by simp [Act.eval, Act.put]) (by simp [Act.eval, Act.put]) (hcp1 _ _ _) ?_)
  go_wp2_with (at_builtin; refine wpList_copy_runI _ rfl _ _ 22 22 rfl _ _ rfl rfl (hcp2 _ (fun _ => rfl) (fun _ => rfl) _ _) ?_)
  go_ret
  first | exact ⟨rfl, rfl⟩ | exact ⟨rfl, by rw [HW1.out]⟩

set_option linter.unusedSimpArgs false in
set_option linter.unusedVariables false in
set_option maxHeartbeats 4000000 in
set_option maxRecDepth 100000 in
theorem pins_end (b n c vb : Nat) (cur : Array Value) (x1 x2 : Value) (w : World) (hb : Bx w b cur 38) (hv : Bx w vb #[x1, x2] 38) (hroom : n + 1 ≤ c) (hc : c ≤ 1000000) (hsz : cur.size = c * 2) (h1 : x1.oneCell' = true) (h2 : x2.oneCell' = true) :
    Calls Try.prog 123 #[.slice (some ⟨b, 0, none⟩) n c, .int .i64 n, .slice (some ⟨vb, 0, none⟩) 1 1] w fun e w' =>
      e = .returned (.slice (some ⟨b, 0, none⟩) (n + 1) c) ∧ w' = w.setRow b (cur.toList.take (n * 2) ++ x1 :: x2 :: cur.toList.drop (n * 2 + 2)).toArray := by
  obtain ⟨i, hi, hz0, hz1, hz2⟩ := info_parts infot
  have hrn := fun ty => run_append_room (P := Try.prog) (w := w) 22 ty 38 i Try.underlying22 hi b n c cur hb ⟨vb, 0, none⟩ 1 1 [x1, x2] (by rw [hz1]; rfl)
    (fun j u hj => by
      rw [Addr.add_lit, Nat.zero_add]
      refine (hv.cell j).trans ?_
      rw [← hj]; simp) (by simp [h1, h2]) hroom (by rw [hz1, hsz]; simp; omega)
  rw [hz1] at hrn
  have g1 : (0 : Int) ≤ (n : Int) := by omega
  have g2 : ¬ (c = n) := by omega
  clear hb hv
  go_enter Try.func123, Try.ntmps123
  go_wp2_with (at_builtin; refine Lib.wpList_append_run _ rfl _ _ _ _ rfl _ _ rfl rfl _ _ (hrn _) ?_)
  go_ret
  exact ⟨rfl, rfl⟩
end Go.Proofs.Ytkgdgnmobahhfaa
end

section
/- slices.Delete of one trace. -/
namespace Go.Proofs.Ytkgdgnmobahhfaa
open Go.RowKit Go.Shelf Go.Lib

/-- 'clear' of one trace. -/
theorem run_clear_one (w : World) (ty : TypeId) (b o c : Nat) (cs : Array Value) (hb : Bx w b cs 38) (ho : o + 2 ≤ cs.size) :
    (Builtin.clear_ #[22] ty #[.slice (some ⟨b, o, none⟩) 1 c]).run Try.prog w = .ok (.tuple #[]) (w.setCells b o [.slice none 0 0, .slice none 0 0]) := by
  obtain ⟨i, hi, hz0, hz1, hz2⟩ := info_parts infot
  have hzv : (zeroValue 38).run Try.prog w = .ok (.agg #[.slice none 0 0, .slice none 0 0]) w := by
    simp [zeroValue, typeInfo, hi, hz0]
  have hst := run_storeCells_cells (P := Try.prog) b o [.slice none 0 0, .slice none 0 0] 0 w
    (fun j hj => by rw [Nat.add_zero, hb.cell, Array.getElem?_eq_getElem (by simp at hj; omega)]; rfl) (fun j hj => hb.free _) (by simp [Value.oneCell'])
  simp only [Nat.add_zero] at hst
  have hzc : (Builtin.zeroCells (Value.agg #[.slice none 0 0, .slice none 0 0]).cells 1).toList = [.slice none 0 0, .slice none 0 0] := by kernel_rfl
  simp [Builtin.clear_, run_underlying Try.underlying22, hzv, hzc, hst]

set_option linter.unusedSimpArgs false in
set_option linter.unusedVariables false in
set_option maxHeartbeats 4000000 in
set_option maxRecDepth 100000 in
theorem pdel16 (b n c i : Nat) (cur : Array Value) (w : World) (hb : Bx w b cur 38) (hi : i < n) (hroom : n < c) (hc : c ≤ 1000000) (hsz : cur.size = c * 2) (h1c : ∀ v, v ∈ cur.toList → v.oneCell' = true) :
    Calls Try.prog 121 #[.slice (some ⟨b, 0, none⟩) n c, .int .i64 i, .int .i64 (i + 1 : Nat)] w fun e w' =>
      e = .returned (.slice (some ⟨b, 0, none⟩) (n - 1) c) ∧ w' = (w.drew.setCells b (0 + i * 2) ((cur.toList.take (n * 2)).drop ((i + 1) * 2))).setCells b ((n - 1) * 2) [.slice none 0 0, .slice none 0 0] := by
  obtain ⟨j, hj⟩ : ∃ j, j = i + 1 := ⟨_, rfl⟩
  obtain ⟨m, hm⟩ : ∃ m, m = n - j := ⟨_, rfl⟩
  obtain ⟨news, hnews⟩ : ∃ news, news = (cur.toList.take (n * 2)).drop (j * 2) := ⟨_, rfl⟩
  rw [← hj, ← hnews]
  obtain ⟨i0, hi0, hz0, hz1, hz2⟩ := info_parts infot
  have hcl : news.length = m * 2 := by rw [hnews, List.length_drop, List.length_take, Array.length_toList, hsz, Nat.min_eq_left (by omega)]; omega
  have hca : ∀ k v, news[k]? = some v → cur[j * 2 + k]? = some v := fun k v h => by
    have hk := (List.getElem?_eq_some_iff.1 h).1
    rw [hnews, List.getElem?_drop, List.getElem?_take_of_lt (by omega), Array.getElem?_toList] at h
    exact h
  have s1 : Hid (news.length = (n - j) * 2) := by rw [← hm]; exact hcl
  have s2 : Hid (∀ u ∈ news, u.oneCell' = true) := fun v hv => h1c v (by rw [hnews] at hv; exact List.mem_of_mem_take (List.mem_of_mem_drop hv))
  have s0 : Hid (∀ k u, news[k]? = some u → w.drew.cell? ((⟨b, j * 2, none⟩ : Addr).add k) = some u) := fun k u hk => by
    rw [Addr.add_lit]
    exact (hb.cell (j * 2 + k)).trans (hca k u hk)
  have s3 : Hid (∀ t, t < news.length → (w.drew.cell? ⟨b, 0 + i * 2 + t, none⟩).isSome = true ∧ w.drew.frozen? ⟨b, 0 + i * 2 + t, none⟩ = false) := by
    intro t ht
    rw [hcl] at ht
    have : w.drew.cell? ⟨b, 0 + i * 2 + t, none⟩ = cur[0 + i * 2 + t]? := hb.cell _
    exact ⟨by rw [this, Array.getElem?_eq_getElem (by omega)]; rfl, hb.free _⟩
  obtain ⟨W1, hW1⟩ : ∃ W1, W1 = w.drew.setCells b (0 + i * 2) news := ⟨_, rfl⟩
  have hb1 : Bx W1 b (ovr cur (0 + i * 2) news) 38 := by rw [hW1]; exact (hb.drewN 1).ovr _ _
  have hclr := fun ty cc => run_clear_one W1 ty b ((n - 1) * 2) cc _ hb1 (by rw [ovr_size, hsz]; omega)
  have HW1 := Lib.hid hW1
  have hij : ¬ ((i : Int) = (j : Int)) := by omega
  have g1 : (j : Int) ≤ (n : Int) := by omega
  have g2 : (i : Int) ≤ (j : Int) := by omega
  have g3 : (0 : Int) ≤ (i : Int) := by omega
  have g4 : ¬ (c = j) := by omega
  have g5 : (n : Int) ≤ (c : Int) := by omega
  have g6 : (i : Int) ≤ (c : Int) := by omega
  have g7 : i ≤ c := by omega
  have g8 : j ≤ c := by omega
  have g9 : ¬ (n = i) := by omega
  have mixed : Try.prog.follows Departure.mixedOrders = true := by kernel_rfl
  have HNM := Lib.hid hm
  have hj1 : i + 1 ≤ j ∧ j ≤ i + 1 := by omega
  have HN1 := Lib.hid (show i + (n - j) = n - 1 by omega)
  have HN2 := Lib.hid (show n - (n - 1) = 1 by omega)
  have HNW := Lib.hid hnews
  have hcl2 : ∀ ty cc, (Builtin.clear_ #[22] ty #[.slice (some ⟨b, (n - 1) * 2, none⟩) (n - (n - 1)) cc]).run Try.prog W1 = .ok (.tuple #[]) (W1.setCells b ((n - 1) * 2) [.slice none 0 0, .slice none 0 0]) := fun ty cc => by rw [HN2.out]; exact hclr ty cc
  clear hclr
  clear hb hb1 hW1 hca hcl hj hm hnews
  rw [← HW1.out]
  go_enter Try.func121, Try.ntmps121
  go_wp2_with fail
  go_region_law_o (refine step_append_room rfl (.tmp 22) (.tmp 25) 22 rfl 38 i0 2 Try.underlying22 hi0 hz1 b 0 i c (by simp [Act.eval, Act.put]) ⟨b, j * 2, none⟩ (n - j) (c - j) news (by simp [Act.eval, Act.put]) s1.out s0.out s2.out (by omega) s3.out ?_; rw [← HW1.out])
  rw [HN1.out]
  go_wp2_with (simp only [hcl2])
  go_ret
  exact ⟨rfl, rfl⟩
end Go.Proofs.Ytkgdgnmobahhfaa
end

section
/- observe.Answer of the program. -/
namespace Go.Proofs.Ytkgdgnmobahhfaa
open Go.RowKit

/-- The result of Answer: what the traces say, for any word. -/
def AnsP (ts : List (List Int × List Int)) (ws : List Int) (n : Nat) (w : World) (r : Ending) (w' : World) : Prop :=
  Below w.heap.size w w' ∧ ((r = .returned (.tuple #[.slice none 0 0, .bool false]) ∧ knw ts ws ts.length < n) ∨ (r = .returned (.tuple #[.slice none 0 0, .bool true]) ∧ n = 0) ∨
    ∃ (a : Nat) (A' : Option Addr) (c' : Nat), 0 < n ∧ a < ts.length ∧ cmn (tIn ts a) ws = n ∧ r = .returned (.tuple #[.slice A' n c', .bool true]) ∧ ((tOut ts a).take n).length = n ∧ Owned w' w.heap.size (.slice A' n c') ((tOut ts a).take n))

set_option linter.unusedSimpArgs false in
set_option linter.unusedVariables false in
set_option maxHeartbeats 8000000 in
set_option maxRecDepth 100000 in
theorem panswer16 (i : Int) (T A : Option Addr) (tn tc n c : Nat) (ts : List (List Int × List Int)) (ws : List Int) (w : World) (hT : Trs w T tn ts) (htc : tn ≤ tc) (hA : Ints w A n ws) (hS : Srt ts) (hF : Full ts) :
    Calls Try.prog 24 #[.agg #[.int .i64 i, .slice T tn tc], .slice A n c] w fun r w' => AnsP ts ws n w r w' := by
  obtain ⟨w0, hw0⟩ : ∃ w0, w0 = w.alloc (.cells #[.int .i64 i, .slice T tn tc] 24) := ⟨_, rfl⟩
  have hb0 : Below w.heap.size w w0 := by rw [hw0]; exact alloc_below _ _
  have m0 : Bx w0 w.heap.size #[.int .i64 i, .slice T tn tc] 24 := by rw [hw0]; exact bx_new _ _ _
  have HM := Lib.hid (fun (W : World) (h : Below w0.heap.size w0 W) => m0.on h)
  have HT := Lib.hid (fun (W : World) (h : Below w0.heap.size w0 W) => (hT.below hb0).below h)
  have HA := Lib.hid (fun (W : World) (h : Below w0.heap.size w0 W) => (hA.below hb0).below h)
  have HB0 := Lib.hid hb0
  have HW0 := Lib.hid hw0
  have HLT := Lib.hid hT.1
  have HLA := Lib.hid hA.1
  have HFF := Lib.hid hF
  have HSS := Lib.hid hS
  have hn := hT.2.1
  have hnb := hA.2.1
  have hbc := Below.refl w0.heap.size w0
  have k1 := m0.cell 1
  simp at k1
  rw [hw0] at k1
  clear hw0 hb0 m0 hT hA hF hS
  go_enter Try.func24, Try.ntmps24
  go_wp2_with fail
  rw [← HW0.out]
  refine (pnear T A tn tc n c ts ws _ (HT.out _ hbc) (HA.out _ hbc) HSS.out HFF.out htc).mono ?_
  rintro e w2 ⟨best, kn, rfl, hkn, HG, a2⟩
  have hbc := bt hbc a2
  clear a2 k1
  have hkx : kn ≤ n := by rw [hkn, ← HLA.out]; exact knw_le
  rw [← HLT.out] at hkn
  have HKN := Lib.hid hkn
  clear hkn
  have HBC := Lib.hid (bt HB0.out hbc)
  by_cases hlt : kn < n
  · have hltI : (kn : Int) < (n : Int) := by omega
    go_wp2
    go_ret2
    exact ⟨HBC.out, .inl ⟨rfl, by rw [← HKN.out]; exact hlt⟩⟩
  · obtain rfl : kn = n := by omega
    by_cases h0 : kn = 0
    · have hz : ((kn : Int) == 0) = true := by rw [h0]; rfl
      have HZ := Lib.hid h0
      clear h0
      go_wp2
      go_ret2
      exact ⟨HBC.out, .inr (.inl ⟨rfl, HZ.out⟩)⟩
    · have hz : ((kn : Int) == 0) = false := by rw [beq_eq_false_iff_ne]; omega
      obtain ⟨hb1, hb2⟩ := HG.out (by omega)
      have HB1 := Lib.hid hb1
      have HB2 := Lib.hid hb2
      rw [HLT.out] at hb1
      obtain ⟨b, off, A1, n1, c1, A2, n2, c2, rfl, hgb, j1, j2, q1, q2, j3, j4⟩ := (HT.out _ hbc).at_ hb1
      have k1 := (HM.out _ hbc).cell 1
      simp at k1
      have hbI : (best : Int) < (tn : Int) := by omega
      have hb0 : (0 : Int) ≤ (best : Int) := by omega
      have hkn2 : kn ≤ n2 := by
        have l1 := j4.1
        have l2 := HFF.out best HB1.out
        have l3 := cmn_le_left (tIn ts best) ws
        rw [HB2.out] at l3
        omega
      have i1' : (kn : Int) ≤ (c2 : Int) := by omega
      have i2' : (0 : Int) ≤ (kn : Int) := by omega
      have hzl : ((tOut ts best).take kn).length = kn := by rw [List.length_take, j4.1]; omega
      have HZL := Lib.hid hzl
      have HCL := Lib.hid (sclone A2 kn c2 _ w2 (j4.takeX (t := kn) hkn2))
      clear hzl hgb j1 j3 j4 hb2 q1 q2 hkn2
      go_wp2_with fail
      refine HCL.out.mono ?_
      rintro r w3 ⟨A3, c3, rfl, o3, a3⟩
      have HO3 := Lib.hid (o3.lower (base' := w.heap.size) HBC.out.size)
      have HB3 := Lib.hid (bt HBC.out a3)
      clear o3 a3
      go_wp2_with fail
      go_ret2
      exact ⟨HB3.out, .inr (.inr ⟨best, A3, c3, by omega, HB1.out, HB2.out, rfl, HZL.out, HO3.out⟩)⟩
end Go.Proofs.Ytkgdgnmobahhfaa
end

section
/- insert of the program. -/
namespace Go.Proofs.Ytkgdgnmobahhfaa
open Go.RowKit Go.Shelf Go.Lib

/-- The result of insert: the box gx leads to the block g, which now holds the new traces. -/
def InsE (i : Int) (gx g N base z : Nat) (ts : List (List Int × List Int)) (xs ys : List Int) (w : World) (r : Ending) (w' : World) : Prop :=
  ∃ (e : Int) (ts' : List (List Int × List Int)), r = .returned (.int .i64 e) ∧ InsR ts xs ys i e ts' ∧ Below z w w' ∧
    (e = 0 → ∃ cur', Bx w' gx #[.int .i64 i, .slice (some ⟨g, 0, none⟩) ts'.length N] 24 ∧ TrO w' base g N cur' ts')
theorem obs_ne_trace {w : World} {gx g : Nat} {a b : Array Value} (h1 : Bx w gx a 24) (h2 : Bx w g b 38) : gx ≠ g := by
  rintro rfl
  unfold Bx at h1 h2
  rw [h1] at h2
  injection h2 with h2
  injection h2 with _ h2
  exact absurd h2 (by decide)
theorem Bx.on1 {w : World} {g : Nat} {a b : Value} {t : TypeId} (h : Bx w g #[a, b] t) (v : Value) : Bx (w.setCell ⟨g, 1, none⟩ v) g #[a, v] t := by
  have := h.set 1 v
  simpa using this
/-- The header in the box is written. -/
theorem TrO.boxed {w : World} {base g N gx : Nat} {cur cs : Array Value} {ts : List (List Int × List Int)} (h : TrO w base g N cur ts) (hx : Bx w gx cs 24) (v : Value) : TrO (w.setCell ⟨gx, 1, none⟩ v) base g N cur ts :=
  h.kept (h.bx.other (obs_ne_trace hx h.bx).symm v) (hx.keptSet (by decide) v)
theorem below_cells {w0 w : World} {z g : Nat} (hb : Below z w0 w) (hg : z ≤ g) (o : Nat) (vs : List Value) : Below z w0 (w.setCells g o vs) := by
  induction vs generalizing w o with
  | nil => exact hb
  | cons v r ih => exact ih (hb.setCell (p := ⟨g, o, none⟩) hg v) (o + 1)
theorem bx_cells {w : World} {gx g : Nat} {cs : Array Value} {t : TypeId} (h : Bx w gx cs t) (hne : gx ≠ g) (o : Nat) (vs : List Value) : Bx (w.setCells g o vs) gx cs t := by
  induction vs generalizing w o with
  | nil => exact h
  | cons v r ih => exact ih (h.other hne v) (o + 1)

set_option linter.unusedSimpArgs false in
set_option linter.unusedVariables false in
set_option maxHeartbeats 16000000 in
set_option maxRecDepth 100000 in
theorem pinsert (i : Int) (A B : Option Addr) (n c m d gx g N base z : Nat) (cur : Array Value) (ts : List (List Int × List Int)) (xs ys : List Int) (w : World)
    (hX : Bx w gx #[.int .i64 i, .slice (some ⟨g, 0, none⟩) ts.length N] 24) (hT : TrO w base g N cur ts) (hx : ∀ W, Below z w W → Ints W A n xs) (hnc : n ≤ c) (hy : ∀ W, Below z w W → Ints W B m ys) (hmd : m ≤ d) (hS : Srt ts) (hF : Full ts)
    (hroom : ts.length + 1 ≤ N) (hz1 : z ≤ gx) (hz2 : z ≤ g) (hbz : base ≤ z) :
    Calls Try.prog 106 #[.pointer (some ⟨gx, 0, none⟩), .agg #[.slice A n c, .slice B m d]] w fun r w' => InsE i gx g N base z ts xs ys w r w' := by
  have HXZ := Lib.hid hx
  have HYZ := Lib.hid hy
  have hx := hx w (Below.refl _ _)
  have hy := hy w (Below.refl _ _)
  have HGN := Lib.hid (show w.heap.size ≠ g from fun e => by have := hT.bx.lt; omega)
  have HGX := Lib.hid (show w.heap.size ≠ gx from fun e => by have := hX.lt; omega)
  obtain ⟨w0, hw0⟩ : ∃ w0, w0 = w.alloc (.cells #[.slice A n c, .slice B m d] 38) := ⟨_, rfl⟩
  obtain ⟨q, hq⟩ : ∃ q, q = ts.length := ⟨_, rfl⟩
  rw [← hq] at hX hroom
  have hb0 : Below w.heap.size w w0 := by rw [hw0]; exact alloc_below _ _
  have mt0 : Bx w0 w.heap.size #[.slice A n c, .slice B m d] 38 := by rw [hw0]; exact bx_new _ _ _
  have mx0 := hX.on hb0
  have hT0 := hT.below hb0
  have hzs : z ≤ w.heap.size := Nat.le_trans hz1 (Nat.le_of_lt hX.lt)
  have hbs : base ≤ w0.heap.size := Nat.le_trans (Nat.le_trans hbz hzs) hb0.size
  have HB0 := Lib.hid (hb0.mono hzs)
  have HX := Lib.hid (fun (W : World) (h : Below w0.heap.size w0 W) => (hx.below hb0).below h)
  have HY := Lib.hid (fun (W : World) (h : Below w0.heap.size w0 W) => (hy.below hb0).below h)
  have HMT := Lib.hid (fun (W : World) (h : Below w0.heap.size w0 W) => mt0.on h)
  have HMX := Lib.hid (fun (W : World) (h : Below w0.heap.size w0 W) => mx0.on h)
  have HTT := Lib.hid (fun (W : World) (h : Below w0.heap.size w0 W) => hT0.below h)
  have HW0 := Lib.hid hw0
  have HQ := Lib.hid hq
  have HLX := Lib.hid hx.1
  have HLY := Lib.hid hy.1
  have hxm := hx.2.1
  have hym := hy.2.1
  have hcapN := hT.cap
  have HSS := Lib.hid hS
  have HFF := Lib.hid hF
  have HBS := Lib.hid hbs
  have hlt1 : w.heap.size < w0.heap.size := mt0.lt
  have HLT1 := Lib.hid hlt1
  have HG0 := Lib.hid hT0.bx.lt
  have HS := Lib.hid (show ∀ W, Below w0.heap.size w0 W → Bx W w.heap.size #[.slice A n c, .slice B m d] 38 ∧ W.cell? ⟨gx, 0, none⟩ = some (.int .i64 i) ∧ W.cell? ⟨gx, 1, none⟩ = some (.slice (some ⟨g, 0, none⟩) q N) ∧ W.cell? ⟨w.heap.size, 0, none⟩ = some (.slice A n c) from fun W h => ⟨(mt0).on h, by have := ((mx0).on h).cell 0; simpa using this, by have := ((mx0).on h).cell 1; simpa using this, by have := ((mt0).on h).cell 0; simpa using this⟩)
  have hbf := Below.refl w0.heap.size w0
  clear hw0 hb0 mt0 mx0 hT0 hX hT hx hy hS hF hq hzs hbs hlt1
  go_enter Try.func106, Try.ntmps106
  go_upto_region 1 with fail
  rw [← HW0.out]
  have hbf : Below w0.heap.size w0 w0.drew := below_drewN (Below.refl _ _) 1
  refine wp_region_heldX (X := fun k => ([] : List Nat).contains k) (S := fun W => Bx W w.heap.size #[.slice A n c, .slice B m d] 38 ∧ W.cell? ⟨gx, 0, none⟩ = some (.int .i64 i) ∧ W.cell? ⟨gx, 1, none⟩ = some (.slice (some ⟨g, 0, none⟩) q N) ∧ W.cell? ⟨w.heap.size, 0, none⟩ = some (.slice A n c)) (by kernel_rfl) ?_
  generalize w0.drew = wkd at hbf ⊢
  refine wpAnyX_takeL (L := []) (i := 0) (v := .agg (#[.slice A n c, .slice B m d])) rfl (by kernel_rfl) (by kernel_rfl) (by kernel_rfl) (by kernel_rfl) (fun _ _ _ h => h) (Or.inl ⟨by rfl, fun W hSW => run_load_bx 38 _ rfl (w.heap.size) rfl 38 (#[.slice A n c, .slice B m d]) (0, 0) _ (hSW.1) Try.underlying38 rfl (by kernel_rfl)⟩) (HS.out _ hbf) ?_
  (try simp only [Act.put, List.getElem_toArray, List.getElem_cons_zero, List.getElem_cons_succ, List.setIfInBounds_toArray, List.set_cons_zero, List.set_cons_succ])
  refine wpAnyX_pure (i := 1) (v := ?_) rfl (by kernel_rfl) (by kernel_rfl) (by kernel_rfl) (fun _ _ _ h => h) (Or.inl ⟨by rfl, ?_⟩) ?_
  rotate_left
  · (intro W _; go_simp; try with_reducible rfl)
  (try simp only [Act.put, List.getElem_toArray, List.getElem_cons_zero, List.getElem_cons_succ, List.setIfInBounds_toArray, List.set_cons_zero, List.set_cons_succ])
  refine wpAnyX_pure (i := 2) (v := ?_) rfl (by kernel_rfl) (by kernel_rfl) (by kernel_rfl) (fun _ _ _ h => h) (Or.inl ⟨by rfl, ?_⟩) ?_
  rotate_left
  · (intro W _; go_simp; try with_reducible rfl)
  (try simp only [Act.put, List.getElem_toArray, List.getElem_cons_zero, List.getElem_cons_succ, List.setIfInBounds_toArray, List.set_cons_zero, List.set_cons_succ])
  refine wpAnyX_pure (i := 3) (v := ?_) rfl (by kernel_rfl) (by kernel_rfl) (by kernel_rfl) (fun _ _ _ h => h) (Or.inl ⟨by rfl, ?_⟩) ?_
  rotate_left
  · (intro W _; go_simp; try with_reducible rfl)
  (try simp only [Act.put, List.getElem_toArray, List.getElem_cons_zero, List.getElem_cons_succ, List.setIfInBounds_toArray, List.set_cons_zero, List.set_cons_succ])
  refine wpAnyX_takeL (L := []) (i := 4) (v := ?_) rfl (by kernel_rfl) (by kernel_rfl) (by kernel_rfl) (by kernel_rfl) (fun _ _ _ h => h) (Or.inl ⟨by rfl, ?_⟩) (HS.out _ hbf) ?_
  rotate_left
  · (intro W hSW; (try dsimp only at hSW); obtain ⟨z0, z1, z2, z3⟩ := hSW; go_simp; try with_reducible rfl)
  (try simp only [Act.put, List.getElem_toArray, List.getElem_cons_zero, List.getElem_cons_succ, List.setIfInBounds_toArray, List.set_cons_zero, List.set_cons_succ])
  refine wpAnyX_one (i := 5) rfl (by kernel_rfl) (fun K hK => ?_)
  go_simp
  go_at_call 70
  refine (pproper A B n c m d i xs ys _ (HX.out _ hbf) (HY.out _ hbf)).mono ?_
  rintro r w2 ⟨rfl, b9⟩
  have hbf := bt hbf b9
  clear b9
  refine hK.out _ _ (fun _ _ => HS.out _ hbf) ?_
  (try simp only [Act.put, List.getElem_toArray, List.getElem_cons_zero, List.getElem_cons_succ, List.setIfInBounds_toArray, List.set_cons_zero, List.set_cons_succ])
  refine wpAnyX_pure (i := 6) (v := ?_) rfl (by kernel_rfl) (by kernel_rfl) (by kernel_rfl) (fun _ _ _ h => h) (Or.inl ⟨by rfl, ?_⟩) ?_
  rotate_left
  · (intro W _; go_simp; try with_reducible rfl)
  (try simp only [Act.put, List.getElem_toArray, List.getElem_cons_zero, List.getElem_cons_succ, List.setIfInBounds_toArray, List.set_cons_zero, List.set_cons_succ])
  refine wpAnyX_done (by kernel_rfl) ?_ _
  by_cases hpr : prpE xs ys i = 0
  case neg =>
    obtain ⟨E, hE⟩ : ∃ E, E = prpE xs ys i := ⟨_, rfl⟩
    have HE := Lib.hid hE
    have hne : (E != 0) = true := by rw [hE]; simpa using hpr
    have HPR := Lib.hid hpr
    rw [← hE]
    have HBF := Lib.hid hbf
    clear hE hbf hpr
    go_wp2_with fail
    go_ret
    obtain ⟨b, hb⟩ := got_any ts xs
    exact ⟨E, [], rfl, ⟨b, hb, .inl ⟨HPR.out, HE.out⟩⟩, HB0.out.trans (HBF.out.mono (Nat.le_trans hz1 (Nat.le_of_lt (HMX.out _ (Below.refl _ _)).lt))), fun h => absurd (HE.out.symm.trans h) HPR.out⟩
  rw [hpr]
  have HPR := Lib.hid hpr
  clear hpr
  go_upto_region 4 with fail
  have hbf : Below w0.heap.size w0 w2.drew := below_drewN hbf 1
  refine wp_region_heldX (X := fun k => ([] : List Nat).contains k) (S := fun W => Bx W w.heap.size #[.slice A n c, .slice B m d] 38 ∧ W.cell? ⟨gx, 0, none⟩ = some (.int .i64 i) ∧ W.cell? ⟨gx, 1, none⟩ = some (.slice (some ⟨g, 0, none⟩) q N) ∧ W.cell? ⟨w.heap.size, 0, none⟩ = some (.slice A n c)) (by kernel_rfl) ?_
  generalize w2.drew = wkd at hbf ⊢
  refine wpAnyX_pure (i := 0) (v := ?_) rfl (by kernel_rfl) (by kernel_rfl) (by kernel_rfl) (fun _ _ _ h => h) (Or.inl ⟨by rfl, ?_⟩) ?_
  rotate_left
  · (intro W _; go_simp; try with_reducible rfl)
  (try simp only [Act.put, List.getElem_toArray, List.getElem_cons_zero, List.getElem_cons_succ, List.setIfInBounds_toArray, List.set_cons_zero, List.set_cons_succ])
  refine wpAnyX_pure (i := 1) (v := ?_) rfl (by kernel_rfl) (by kernel_rfl) (by kernel_rfl) (fun _ _ _ h => h) (Or.inl ⟨by rfl, ?_⟩) ?_
  rotate_left
  · (intro W _; go_simp; try with_reducible rfl)
  (try simp only [Act.put, List.getElem_toArray, List.getElem_cons_zero, List.getElem_cons_succ, List.setIfInBounds_toArray, List.set_cons_zero, List.set_cons_succ])
  refine wpAnyX_pure (i := 2) (v := ?_) rfl (by kernel_rfl) (by kernel_rfl) (by kernel_rfl) (fun _ _ _ h => h) (Or.inl ⟨by rfl, ?_⟩) ?_
  rotate_left
  · (intro W _; go_simp; try with_reducible rfl)
  (try simp only [Act.put, List.getElem_toArray, List.getElem_cons_zero, List.getElem_cons_succ, List.setIfInBounds_toArray, List.set_cons_zero, List.set_cons_succ])
  refine wpAnyX_takeL (L := []) (i := 3) (v := ?_) rfl (by kernel_rfl) (by kernel_rfl) (by kernel_rfl) (by kernel_rfl) (fun _ _ _ h => h) (Or.inl ⟨by rfl, ?_⟩) (HS.out _ hbf) ?_
  rotate_left
  · (intro W hSW; (try dsimp only at hSW); obtain ⟨z0, z1, z2, z3⟩ := hSW; go_simp; try with_reducible rfl)
  (try simp only [Act.put, List.getElem_toArray, List.getElem_cons_zero, List.getElem_cons_succ, List.setIfInBounds_toArray, List.set_cons_zero, List.set_cons_succ])
  refine wpAnyX_pure (i := 4) (v := ?_) rfl (by kernel_rfl) (by kernel_rfl) (by kernel_rfl) (fun _ _ _ h => h) (Or.inl ⟨by rfl, ?_⟩) ?_
  rotate_left
  · (intro W _; go_simp; try with_reducible rfl)
  (try simp only [Act.put, List.getElem_toArray, List.getElem_cons_zero, List.getElem_cons_succ, List.setIfInBounds_toArray, List.set_cons_zero, List.set_cons_succ])
  refine wpAnyX_takeL (L := []) (i := 5) (v := ?_) rfl (by kernel_rfl) (by kernel_rfl) (by kernel_rfl) (by kernel_rfl) (fun _ _ _ h => h) (Or.inl ⟨by rfl, ?_⟩) (HS.out _ hbf) ?_
  rotate_left
  · (intro W hSW; (try dsimp only at hSW); obtain ⟨z0, z1, z2, z3⟩ := hSW; go_simp; try with_reducible rfl)
  (try simp only [Act.put, List.getElem_toArray, List.getElem_cons_zero, List.getElem_cons_succ, List.setIfInBounds_toArray, List.set_cons_zero, List.set_cons_succ])
  refine wpAnyX_one (i := 6) rfl (by kernel_rfl) (fun K hK => ?_)
  go_simp
  go_at_call 67
  refine (pnear (some ⟨g, 0, none⟩) A q N n c ts xs _ (by rw [HQ.out]; exact (HTT.out _ hbf).trs) (HX.out _ hbf) HSS.out HFF.out (by omega)).mono ?_
  rintro r w3 ⟨best, kn, rfl, hkn, HG, b9⟩
  have hkx : kn ≤ n := by rw [hkn, ← HLX.out]; exact knw_le
  have HKN := Lib.hid (show kn = knw ts xs ts.length by rw [hkn, HQ.out])
  clear hkn
  have hbf := bt hbf b9
  clear b9
  refine hK.out _ _ (fun _ _ => HS.out _ hbf) ?_
  (try simp only [Act.put, List.getElem_toArray, List.getElem_cons_zero, List.getElem_cons_succ, List.setIfInBounds_toArray, List.set_cons_zero, List.set_cons_succ])
  refine wpAnyX_pure (i := 7) (v := ?_) rfl (by kernel_rfl) (by kernel_rfl) (by kernel_rfl) (fun _ _ _ h => h) (Or.inl ⟨by rfl, ?_⟩) ?_
  rotate_left
  · (intro W _; go_simp; try with_reducible rfl)
  (try simp only [Act.put, List.getElem_toArray, List.getElem_cons_zero, List.getElem_cons_succ, List.setIfInBounds_toArray, List.set_cons_zero, List.set_cons_succ])
  refine wpAnyX_pure (i := 8) (v := ?_) rfl (by kernel_rfl) (by kernel_rfl) (by kernel_rfl) (fun _ _ _ h => h) (Or.inl ⟨by rfl, ?_⟩) ?_
  rotate_left
  · (intro W _; go_simp; try with_reducible rfl)
  (try simp only [Act.put, List.getElem_toArray, List.getElem_cons_zero, List.getElem_cons_succ, List.setIfInBounds_toArray, List.set_cons_zero, List.set_cons_succ])
  refine wpAnyX_pure (i := 9) (v := ?_) rfl (by kernel_rfl) (by kernel_rfl) (by kernel_rfl) (fun _ _ _ h => h) (Or.inl ⟨by rfl, ?_⟩) ?_
  rotate_left
  · (intro W _; go_simp; try with_reducible rfl)
  (try simp only [Act.put, List.getElem_toArray, List.getElem_cons_zero, List.getElem_cons_succ, List.setIfInBounds_toArray, List.set_cons_zero, List.set_cons_succ])
  refine wpAnyX_pure (i := 10) (v := ?_) rfl (by kernel_rfl) (by kernel_rfl) (by kernel_rfl) (fun _ _ _ h => h) (Or.inl ⟨by rfl, ?_⟩) ?_
  rotate_left
  · (intro W _; go_simp; try with_reducible rfl)
  (try simp only [Act.put, List.getElem_toArray, List.getElem_cons_zero, List.getElem_cons_succ, List.setIfInBounds_toArray, List.set_cons_zero, List.set_cons_succ])
  refine wpAnyX_pure (i := 11) (v := ?_) rfl (by kernel_rfl) (by kernel_rfl) (by kernel_rfl) (fun _ _ _ h => h) (Or.inl ⟨by rfl, ?_⟩) ?_
  rotate_left
  · (intro W _; go_simp; try with_reducible rfl)
  (try simp only [Act.put, List.getElem_toArray, List.getElem_cons_zero, List.getElem_cons_succ, List.setIfInBounds_toArray, List.set_cons_zero, List.set_cons_succ])
  refine wpAnyX_done (by kernel_rfl) ?_ _
  have HBB := Lib.hid (show 0 < kn → best < q ∧ kn ≤ (tOut ts best).length from fun h => by
    obtain ⟨g1, g2⟩ := HG.out h
    refine ⟨by rw [HQ.out]; exact g1, ?_⟩
    have l2 := HFF.out best g1
    have l3 := cmn_le_left (tIn ts best) xs
    omega)
  go_upto_region 5 with fail
  have hbf : Below w0.heap.size w0 w3.drew := below_drewN hbf 1
  refine wp_region_heldX (X := fun k => ([] : List Nat).contains k) (S := fun W => Bx W w.heap.size #[.slice A n c, .slice B m d] 38 ∧ W.cell? ⟨gx, 0, none⟩ = some (.int .i64 i) ∧ W.cell? ⟨gx, 1, none⟩ = some (.slice (some ⟨g, 0, none⟩) q N) ∧ W.cell? ⟨w.heap.size, 0, none⟩ = some (.slice A n c)) (by kernel_rfl) ?_
  generalize w3.drew = wkd at hbf ⊢
  refine wpAnyX_pure (i := 0) (v := ?_) rfl (by kernel_rfl) (by kernel_rfl) (by kernel_rfl) (fun _ _ _ h => h) (Or.inl ⟨by rfl, ?_⟩) ?_
  rotate_left
  · (intro W _; go_simp; try with_reducible rfl)
  (try simp only [Act.put, List.getElem_toArray, List.getElem_cons_zero, List.getElem_cons_succ, List.setIfInBounds_toArray, List.set_cons_zero, List.set_cons_succ])
  refine wpAnyX_pure (i := 1) (v := ?_) rfl (by kernel_rfl) (by kernel_rfl) (by kernel_rfl) (fun _ _ _ h => h) (Or.inl ⟨by rfl, ?_⟩) ?_
  rotate_left
  · (intro W _; go_simp; try with_reducible rfl)
  (try simp only [Act.put, List.getElem_toArray, List.getElem_cons_zero, List.getElem_cons_succ, List.setIfInBounds_toArray, List.set_cons_zero, List.set_cons_succ])
  refine wpAnyX_pure (i := 2) (v := ?_) rfl (by kernel_rfl) (by kernel_rfl) (by kernel_rfl) (fun _ _ _ h => h) (Or.inl ⟨by rfl, ?_⟩) ?_
  rotate_left
  · (intro W _; go_simp; try with_reducible rfl)
  (try simp only [Act.put, List.getElem_toArray, List.getElem_cons_zero, List.getElem_cons_succ, List.setIfInBounds_toArray, List.set_cons_zero, List.set_cons_succ])
  refine wpAnyX_takeL (L := []) (i := 3) (v := ?_) rfl (by kernel_rfl) (by kernel_rfl) (by kernel_rfl) (by kernel_rfl) (fun _ _ _ h => h) (Or.inl ⟨by rfl, ?_⟩) (HS.out _ hbf) ?_
  rotate_left
  · (intro W hSW; (try dsimp only at hSW); obtain ⟨z0, z1, z2, z3⟩ := hSW; go_simp; try with_reducible rfl)
  (try simp only [Act.put, List.getElem_toArray, List.getElem_cons_zero, List.getElem_cons_succ, List.setIfInBounds_toArray, List.set_cons_zero, List.set_cons_succ])
  refine wpAnyX_pure (i := 4) (v := ?_) rfl (by kernel_rfl) (by kernel_rfl) (by kernel_rfl) (fun _ _ _ h => h) (Or.inl ⟨by rfl, ?_⟩) ?_
  rotate_left
  · (intro W _; go_simp; try with_reducible rfl)
  (try simp only [Act.put, List.getElem_toArray, List.getElem_cons_zero, List.getElem_cons_succ, List.setIfInBounds_toArray, List.set_cons_zero, List.set_cons_succ])
  refine wpAnyX_pure (i := 5) (v := ?_) rfl (by kernel_rfl) (by kernel_rfl) (by kernel_rfl) (fun _ _ _ h => h) (Or.inl ⟨by rfl, ?_⟩) ?_
  rotate_left
  · (intro W _; go_simp; try with_reducible rfl)
  (try simp only [Act.put, List.getElem_toArray, List.getElem_cons_zero, List.getElem_cons_succ, List.setIfInBounds_toArray, List.set_cons_zero, List.set_cons_succ])
  refine wpAnyX_takeL (L := []) (i := 6) (v := .agg (#[.slice A n c, .slice B m d])) rfl (by kernel_rfl) (by kernel_rfl) (by kernel_rfl) (by kernel_rfl) (fun _ _ _ h => h) (Or.inl ⟨by rfl, fun W hSW => run_load_bx 38 _ rfl (w.heap.size) rfl 38 (#[.slice A n c, .slice B m d]) (0, 0) _ (hSW.1) Try.underlying38 rfl (by kernel_rfl)⟩) (HS.out _ hbf) ?_
  (try simp only [Act.put, List.getElem_toArray, List.getElem_cons_zero, List.getElem_cons_succ, List.setIfInBounds_toArray, List.set_cons_zero, List.set_cons_succ])
  refine wpAnyX_pure (i := 8) (v := ?_) rfl (by kernel_rfl) (by kernel_rfl) (by kernel_rfl) (fun _ _ _ h => h) (Or.inl ⟨by rfl, ?_⟩) ?_
  rotate_left
  · (intro W _; go_simp; try with_reducible rfl)
  (try simp only [Act.put, List.getElem_toArray, List.getElem_cons_zero, List.getElem_cons_succ, List.setIfInBounds_toArray, List.set_cons_zero, List.set_cons_succ])
  refine wpAnyX_one (i := 7) rfl (by kernel_rfl) (fun K hK => ?_)
  go_simp
  go_at_call 71
  refine (pagreed (some ⟨g, 0, none⟩) A B q N n c m d best kn ts ys _ (by rw [HQ.out]; exact (HTT.out _ hbf).trs) (HY.out _ hbf) HBB.out).mono ?_
  rintro r w4 ⟨rfl, b9⟩
  have hbf := bt hbf b9
  clear b9
  obtain ⟨a, ha⟩ : ∃ a, a = agrN ts best kn ys := ⟨_, rfl⟩
  have hal : a ≤ kn := by rw [ha]; exact agrN_le _ _ _ _
  rw [← ha]
  have HA := Lib.hid ha
  clear ha
  refine hK.out _ _ (fun _ _ => HS.out _ hbf) ?_
  (try simp only [Act.put, List.getElem_toArray, List.getElem_cons_zero, List.getElem_cons_succ, List.setIfInBounds_toArray, List.set_cons_zero, List.set_cons_succ])
  refine wpAnyX_pure (i := 9) (v := ?_) rfl (by kernel_rfl) (by kernel_rfl) (by kernel_rfl) (fun _ _ _ h => h) (Or.inl ⟨by rfl, ?_⟩) ?_
  rotate_left
  · (intro W _; go_simp; try with_reducible rfl)
  (try simp only [Act.put, List.getElem_toArray, List.getElem_cons_zero, List.getElem_cons_succ, List.setIfInBounds_toArray, List.set_cons_zero, List.set_cons_succ])
  refine wpAnyX_done (by kernel_rfl) ?_ _
  have HBW := Lib.hid (HB0.out.trans (hbf.mono (Nat.le_trans hz1 (Nat.le_of_lt (HMX.out _ (Below.refl _ _)).lt))))
  by_cases hag : a < kn
  · have hagI : (a : Int) < (kn : Int) := by omega
    go_wp2_with fail
    go_ret
    exact ⟨13, [], rfl, ⟨best, by rw [← HKN.out]; exact HG.out, .inr (.inl ⟨HPR.out, by rw [← HKN.out, ← HA.out]; exact hag, rfl⟩)⟩, HBW.out, fun h => absurd h (by decide)⟩
  obtain rfl : a = kn := by omega
  have hagI : ¬ ((a : Int) < (a : Int)) := by omega
  have k0 := ((HS.out _ hbf).2.2.2)
  have HAG := Lib.hid (show agrN ts best (knw ts xs ts.length) ys = knw ts xs ts.length by rw [← HKN.out, ← HA.out])
  by_cases hfull : a = n
  · have hfI : ((a : Int) == (n : Int)) = true := by simp; omega
    have HFU := Lib.hid (show knw ts xs ts.length = xs.length by rw [← HKN.out, HLX.out, hfull])
    have HMXf := Lib.hid (HMX.out _ hbf)
    have HTTf := Lib.hid (HTT.out _ hbf)
    clear hbf hagI hal hkx
    go_wp2_with fail
    go_ret
    exact ⟨0, ts, rfl, ⟨best, by rw [← HKN.out]; exact HG.out, .inr (.inr (.inl ⟨HPR.out, HAG.out, HFU.out, rfl, rfl⟩))⟩, HBW.out, fun _ => ⟨cur, by rw [← HQ.out]; exact HMXf.out, HTTf.out⟩⟩
  have hfI : ((a : Int) == (n : Int)) = false := by simp; omega
  have HLT := Lib.hid (show knw ts xs ts.length < xs.length by rw [← HKN.out, HLX.out]; omega)
  by_cases hdel : 0 < a ∧ a = (tIn ts best).length
  case neg =>
    have trkq : q = ts.length := HQ.out
    have HBO := Lib.hid (fun h : 0 < a => (HBB.out h).1)
    obtain ⟨cuk, hcuk⟩ : ∃ cuk, cuk = cur := ⟨_, rfl⟩
    rw [← hcuk] at HTT
    clear hcuk
    have hdl : ts = InsD ts best (knw ts xs ts.length) := by unfold InsD; rw [← HKN.out, if_neg hdel]
    have trf := HTT.out _ hbf
    by_cases ha0 : 0 < a
    · obtain ⟨A1, q1, A2, q2, e1, e2, p1, p2⟩ := trf.hd best (by rw [← HQ.out]; exact HBO.out ha0)
      have ha0I : (0 : Int) < (a : Int) := by omega
      have hbI : (best : Int) < (q : Int) := by have := HBO.out ha0; omega
      have hbI0 : (0 : Int) ≤ (best : Int) := by omega
      have hneL : ((a : Int) == ((tIn ts best).length : Int)) = false := by
        rw [beq_eq_false_iff_ne]
        intro h
        exact hdel ⟨ha0, by omega⟩
      have kb : w4.cell? ⟨g, best * 2, none⟩ = some (.slice A1 (tIn ts best).length q1) := by rw [trf.bx.cell]; exact e1
      have k1' := (HMX.out _ hbf).cell 1
      simp at k1'
      have HMXf := Lib.hid (HMX.out _ hbf)
      have HMTf := Lib.hid (HMT.out _ hbf)
      have HTTf := Lib.hid (HTT.out _ hbf)
      have HXf := Lib.hid (HX.out _ hbf)
      have HYf := Lib.hid (HY.out _ hbf)
      have HDL := Lib.hid hdl
      clear e1 e2 p1 p2 trf hdel hdl hbf
      go_upto_region 11 with fail
      clear kb hneL k1'
      have mxk := HMXf.out
      have mtk := HMTf.out
      have trk := HTTf.out
      have hik := HXf.out
      have hjk := HYf.out
      have BWK := Lib.hid (HBW.out)
      have HD := Lib.hid (HDL.out)
      have HQD := Lib.hid (show q = (ts).length from trkq)
      clear trkq
      have HSD := Lib.hid (InsD.srt HSS.out best (knw ts xs ts.length))
      rw [← HD.out] at HSD
      have k1 := mxk.cell 1
      simp at k1
      by_cases hlim : 10000 ≤ q
      · have hlI : (10000 : Int) ≤ (q : Int) := by omega
        clear mxk mtk trk hik hjk
        go_wp2_with fail
        go_ret
        exact ⟨11, [], rfl, ⟨best, by rw [← HKN.out]; exact HG.out, .inr (.inr (.inr (.inl ⟨HPR.out, HAG.out, HLT.out, by rw [← HD.out, ← HQD.out]; exact hlim, rfl⟩)))⟩, BWK.out, fun h => absurd h (by decide)⟩
      have hlI : ¬ (10000 : Int) ≤ (q : Int) := by omega
      have HS := Lib.hid (show ∀ W, Below w4.heap.size w4 W → Bx W w.heap.size #[.slice A n c, .slice B m d] 38 ∧ W.cell? ⟨gx, 0, none⟩ = some (.int .i64 i) ∧ W.cell? ⟨gx, 1, none⟩ = some (.slice (some ⟨g, 0, none⟩) q N) ∧ W.cell? ⟨w.heap.size, 0, none⟩ = some (.slice A n c) from fun W h => ⟨(mtk).on h, by have := ((mxk).on h).cell 0; simpa using this, by have := ((mxk).on h).cell 1; simpa using this, by have := ((mtk).on h).cell 0; simpa using this⟩)
      have HIK := Lib.hid (fun (W : World) (h : Below w4.heap.size w4 W) => hik.below h)
      have HJK := Lib.hid (fun (W : World) (h : Below w4.heap.size w4 W) => hjk.below h)
      have HTK := Lib.hid (fun (W : World) (h : Below w4.heap.size w4 W) => trk.below h)
      have HXK := Lib.hid (fun (W : World) (h : Below w4.heap.size w4 W) => mxk.on h)
      have hzk : z ≤ w4.heap.size := Nat.le_trans hz1 (Nat.le_of_lt mxk.lt)
      have hgk : g < w4.heap.size := trk.bx.lt
      have hszk := Lib.hid trk.sz
      have honek := Lib.hid trk.one
      have HNE := Lib.hid (obs_ne_trace mxk trk.bx)
      clear mxk mtk trk hik hjk
      go_upto_region 13 with fail
      have hbf : Below w4.heap.size w4 w4.drew := below_drewN (Below.refl _ _) 1
      refine wp_region_heldX (X := fun k => ([] : List Nat).contains k) (S := fun W => Bx W w.heap.size #[.slice A n c, .slice B m d] 38 ∧ W.cell? ⟨gx, 0, none⟩ = some (.int .i64 i) ∧ W.cell? ⟨gx, 1, none⟩ = some (.slice (some ⟨g, 0, none⟩) q N) ∧ W.cell? ⟨w.heap.size, 0, none⟩ = some (.slice A n c)) (by kernel_rfl) ?_
      generalize w4.drew = wkd at hbf ⊢
      refine wpAnyX_pure (i := 0) (v := ?_) rfl (by kernel_rfl) (by kernel_rfl) (by kernel_rfl) (fun _ _ _ h => h) (Or.inl ⟨by rfl, ?_⟩) ?_
      rotate_left
      · (intro W _; go_simp; try with_reducible rfl)
      (try simp only [Act.put, List.getElem_toArray, List.getElem_cons_zero, List.getElem_cons_succ, List.setIfInBounds_toArray, List.set_cons_zero, List.set_cons_succ])
      refine wpAnyX_pure (i := 1) (v := ?_) rfl (by kernel_rfl) (by kernel_rfl) (by kernel_rfl) (fun _ _ _ h => h) (Or.inl ⟨by rfl, ?_⟩) ?_
      rotate_left
      · (intro W _; go_simp; try with_reducible rfl)
      (try simp only [Act.put, List.getElem_toArray, List.getElem_cons_zero, List.getElem_cons_succ, List.setIfInBounds_toArray, List.set_cons_zero, List.set_cons_succ])
      refine wpAnyX_pure (i := 2) (v := ?_) rfl (by kernel_rfl) (by kernel_rfl) (by kernel_rfl) (fun _ _ _ h => h) (Or.inl ⟨by rfl, ?_⟩) ?_
      rotate_left
      · (intro W _; go_simp; try with_reducible rfl)
      (try simp only [Act.put, List.getElem_toArray, List.getElem_cons_zero, List.getElem_cons_succ, List.setIfInBounds_toArray, List.set_cons_zero, List.set_cons_succ])
      refine wpAnyX_takeL (L := []) (i := 3) (v := ?_) rfl (by kernel_rfl) (by kernel_rfl) (by kernel_rfl) (by kernel_rfl) (fun _ _ _ h => h) (Or.inl ⟨by rfl, ?_⟩) (HS.out _ hbf) ?_
      rotate_left
      · (intro W hSW; (try dsimp only at hSW); obtain ⟨z0, z1, z2, z3⟩ := hSW; go_simp; try with_reducible rfl)
      (try simp only [Act.put, List.getElem_toArray, List.getElem_cons_zero, List.getElem_cons_succ, List.setIfInBounds_toArray, List.set_cons_zero, List.set_cons_succ])
      refine wpAnyX_pure (i := 4) (v := ?_) rfl (by kernel_rfl) (by kernel_rfl) (by kernel_rfl) (fun _ _ _ h => h) (Or.inl ⟨by rfl, ?_⟩) ?_
      rotate_left
      · (intro W _; go_simp; try with_reducible rfl)
      (try simp only [Act.put, List.getElem_toArray, List.getElem_cons_zero, List.getElem_cons_succ, List.setIfInBounds_toArray, List.set_cons_zero, List.set_cons_succ])
      refine wpAnyX_takeL (L := []) (i := 5) (v := ?_) rfl (by kernel_rfl) (by kernel_rfl) (by kernel_rfl) (by kernel_rfl) (fun _ _ _ h => h) (Or.inl ⟨by rfl, ?_⟩) (HS.out _ hbf) ?_
      rotate_left
      · (intro W hSW; (try dsimp only at hSW); obtain ⟨z0, z1, z2, z3⟩ := hSW; go_simp; try with_reducible rfl)
      (try simp only [Act.put, List.getElem_toArray, List.getElem_cons_zero, List.getElem_cons_succ, List.setIfInBounds_toArray, List.set_cons_zero, List.set_cons_succ])
      refine wpAnyX_one (i := 6) rfl (by kernel_rfl) (fun K hK => ?_)
      go_simp
      go_at_call 103
      refine (pplace (some ⟨g, 0, none⟩) A q N n c (ts) xs _ (by rw [HQD.out]; exact (HTK.out _ hbf).trs) (HIK.out _ hbf) HSD.out).mono ?_
      rintro r w8 ⟨p, pv, rfl, hpq, HLO, HHI, b9⟩
      have hbf := bt hbf b9
      clear b9
      refine hK.out _ _ (fun _ _ => HS.out _ hbf) ?_
      (try simp only [Act.put, List.getElem_toArray, List.getElem_cons_zero, List.getElem_cons_succ, List.setIfInBounds_toArray, List.set_cons_zero, List.set_cons_succ])
      refine wpAnyX_pure (i := 7) (v := ?_) rfl (by kernel_rfl) (by kernel_rfl) (by kernel_rfl) (fun _ _ _ h => h) (Or.inl ⟨by rfl, ?_⟩) ?_
      rotate_left
      · (intro W _; go_simp; try with_reducible rfl)
      (try simp only [Act.put, List.getElem_toArray, List.getElem_cons_zero, List.getElem_cons_succ, List.setIfInBounds_toArray, List.set_cons_zero, List.set_cons_succ])
      refine wpAnyX_pure (i := 8) (v := ?_) rfl (by kernel_rfl) (by kernel_rfl) (by kernel_rfl) (fun _ _ _ h => h) (Or.inl ⟨by rfl, ?_⟩) ?_
      rotate_left
      · (intro W _; go_simp; try with_reducible rfl)
      (try simp only [Act.put, List.getElem_toArray, List.getElem_cons_zero, List.getElem_cons_succ, List.setIfInBounds_toArray, List.set_cons_zero, List.set_cons_succ])
      refine wpAnyX_pure (i := 9) (v := ?_) rfl (by kernel_rfl) (by kernel_rfl) (by kernel_rfl) (fun _ _ _ h => h) (Or.inl ⟨by rfl, ?_⟩) ?_
      rotate_left
      · (intro W _; go_simp; try with_reducible rfl)
      (try simp only [Act.put, List.getElem_toArray, List.getElem_cons_zero, List.getElem_cons_succ, List.setIfInBounds_toArray, List.set_cons_zero, List.set_cons_succ])
      refine wpAnyX_pure (i := 10) (v := ?_) rfl (by kernel_rfl) (by kernel_rfl) (by kernel_rfl) (fun _ _ _ h => h) (Or.inl ⟨by rfl, ?_⟩) ?_
      rotate_left
      · (intro W _; go_simp; try with_reducible rfl)
      (try simp only [Act.put, List.getElem_toArray, List.getElem_cons_zero, List.getElem_cons_succ, List.setIfInBounds_toArray, List.set_cons_zero, List.set_cons_succ])
      refine wpAnyX_pure (i := 11) (v := ?_) rfl (by kernel_rfl) (by kernel_rfl) (by kernel_rfl) (fun _ _ _ h => h) (Or.inl ⟨by rfl, ?_⟩) ?_
      rotate_left
      · (intro W _; go_simp; try with_reducible rfl)
      (try simp only [Act.put, List.getElem_toArray, List.getElem_cons_zero, List.getElem_cons_succ, List.setIfInBounds_toArray, List.set_cons_zero, List.set_cons_succ])
      refine wpAnyX_done (by kernel_rfl) ?_ _
      go_upto_region 14 with fail
      have hbf : Below w4.heap.size w4 w8.drew := below_drewN hbf 1
      refine wp_region_heldX (X := fun k => ([12] : List Nat).contains k) (S := fun W => Bx W w.heap.size #[.slice A n c, .slice B m d] 38 ∧ W.cell? ⟨gx, 0, none⟩ = some (.int .i64 i) ∧ W.cell? ⟨gx, 1, none⟩ = some (.slice (some ⟨g, 0, none⟩) q N) ∧ W.cell? ⟨w.heap.size, 0, none⟩ = some (.slice A n c)) (by kernel_rfl) ?_
      generalize w8.drew = wkd at hbf ⊢
      refine wpAnyX_pure (i := 0) (v := ?_) rfl (by kernel_rfl) (by kernel_rfl) (by kernel_rfl) (fun _ _ _ h => h) (Or.inl ⟨by rfl, ?_⟩) ?_
      rotate_left
      · (intro W _; go_simp; try with_reducible rfl)
      (try simp only [Act.put, List.getElem_toArray, List.getElem_cons_zero, List.getElem_cons_succ, List.setIfInBounds_toArray, List.set_cons_zero, List.set_cons_succ])
      refine wpAnyX_pure (i := 1) (v := ?_) rfl (by kernel_rfl) (by kernel_rfl) (by kernel_rfl) (fun _ _ _ h => h) (Or.inl ⟨by rfl, ?_⟩) ?_
      rotate_left
      · (intro W _; go_simp; try with_reducible rfl)
      (try simp only [Act.put, List.getElem_toArray, List.getElem_cons_zero, List.getElem_cons_succ, List.setIfInBounds_toArray, List.set_cons_zero, List.set_cons_succ])
      refine wpAnyX_pure (i := 2) (v := ?_) rfl (by kernel_rfl) (by kernel_rfl) (by kernel_rfl) (fun _ _ _ h => h) (Or.inl ⟨by rfl, ?_⟩) ?_
      rotate_left
      · (intro W _; go_simp; try with_reducible rfl)
      (try simp only [Act.put, List.getElem_toArray, List.getElem_cons_zero, List.getElem_cons_succ, List.setIfInBounds_toArray, List.set_cons_zero, List.set_cons_succ])
      refine wpAnyX_pure (i := 3) (v := ?_) rfl (by kernel_rfl) (by kernel_rfl) (by kernel_rfl) (fun _ _ _ h => h) (Or.inl ⟨by rfl, ?_⟩) ?_
      rotate_left
      · (intro W _; go_simp; try with_reducible rfl)
      (try simp only [Act.put, List.getElem_toArray, List.getElem_cons_zero, List.getElem_cons_succ, List.setIfInBounds_toArray, List.set_cons_zero, List.set_cons_succ])
      refine wpAnyX_takeL (L := [12]) (i := 4) (v := ?_) rfl (by kernel_rfl) (by kernel_rfl) (by kernel_rfl) (by kernel_rfl) (fun _ _ _ h => h) (Or.inl ⟨by rfl, ?_⟩) (HS.out _ hbf) ?_
      rotate_left
      · (intro W hSW; (try dsimp only at hSW); obtain ⟨z0, z1, z2, z3⟩ := hSW; go_simp; try with_reducible rfl)
      (try simp only [Act.put, List.getElem_toArray, List.getElem_cons_zero, List.getElem_cons_succ, List.setIfInBounds_toArray, List.set_cons_zero, List.set_cons_succ])
      refine wpAnyX_pure (i := 5) (v := ?_) rfl (by kernel_rfl) (by kernel_rfl) (by kernel_rfl) (fun _ _ _ h => h) (Or.inl ⟨by rfl, ?_⟩) ?_
      rotate_left
      · (intro W _; go_simp; try with_reducible rfl)
      (try simp only [Act.put, List.getElem_toArray, List.getElem_cons_zero, List.getElem_cons_succ, List.setIfInBounds_toArray, List.set_cons_zero, List.set_cons_succ])
      refine wpAnyX_takeL (L := [12]) (i := 6) (v := .agg (#[.slice A n c, .slice B m d])) rfl (by kernel_rfl) (by kernel_rfl) (by kernel_rfl) (by kernel_rfl) (fun _ _ _ h => h) (Or.inl ⟨by rfl, fun W hSW => run_load_bx 38 _ rfl (w.heap.size) rfl 38 (#[.slice A n c, .slice B m d]) (0, 0) _ (hSW.1) Try.underlying38 rfl (by kernel_rfl)⟩) (HS.out _ hbf) ?_
      (try simp only [Act.put, List.getElem_toArray, List.getElem_cons_zero, List.getElem_cons_succ, List.setIfInBounds_toArray, List.set_cons_zero, List.set_cons_succ])
      refine wpAnyX_one (i := 7) rfl (by kernel_rfl) (fun K hK => ?_)
      go_simp
      go_at_call 105
      refine (pcopied16 A B n c m d xs ys _ (HIK.out _ hbf) (HJK.out _ hbf)).mono ?_
      rintro r w9 ⟨B1, B2, d1, d2, rfl, o1, o2, b9⟩
      have o1 := o1.lower (base' := base) (Nat.le_trans (Nat.le_trans hbz hzk) hbf.size)
      have o2 := o2.lower (base' := base) (Nat.le_trans (Nat.le_trans hbz hzk) hbf.size)
      have hbf := bt hbf b9
      clear b9
      refine hK.out _ _ (fun _ _ => HS.out _ hbf) ?_
      (try simp only [Act.put, List.getElem_toArray, List.getElem_cons_zero, List.getElem_cons_succ, List.setIfInBounds_toArray, List.set_cons_zero, List.set_cons_succ])
      refine wpAnyX_one (i := 8) rfl (by kernel_rfl) (fun K hK => ?_)
      go_simp
      have l9 := alloc_below w9 (.cells #[.slice B1 n d1, .slice B2 m d2] 38)
      have hv9 := bx_new w9 #[.slice B1 n d1, .slice B2 m d2] 38
      obtain ⟨wa, hwa⟩ : ∃ wa, wa = w9.alloc (.cells #[.slice B1 n d1, .slice B2 m d2] 38) := ⟨_, rfl⟩
      rw [← hwa] at l9 hv9 ⊢
      have o1 := o1.kept l9
      have o2 := o2.kept l9
      have hgv : w9.heap.size ≠ g := by have := hbf.size; omega
      have hbf := bt hbf l9
      clear l9 hwa
      refine hK.out _ _ (fun _ _ => HS.out _ hbf) ?_
      (try simp only [Act.put, List.getElem_toArray, List.getElem_cons_zero, List.getElem_cons_succ, List.setIfInBounds_toArray, List.set_cons_zero, List.set_cons_succ])
      refine wpAnyX_one (i := 9) rfl (by kernel_rfl) (fun K hK => ?_)
      by_cases hpe : p < q
      · go_simp
        go_at_call 123
        refine (pins_shift g q N p w9.heap.size cuk _ _ wa (HTK.out _ hbf).bx hv9 hgv (by omega) (by omega) hcapN hszk.out honek.out rfl rfl).mono ?_
        rintro r wb ⟨rfl, hwb⟩
        obtain ⟨cur', htr⟩ := TrO.shifted (w1 := wb) (HTK.out _ hbf) (p := p) (by rw [← HQD.out]; exact hpq) (by rw [← HQD.out]; omega) (xs := xs) (ys := ys) (B1 := B1) (B2 := B2) (d1 := d1) (d2 := d2) (by rw [HLX.out]; exact o1) (by rw [HLY.out]; exact o2) (by rw [HLX.out]; exact hxm) (by rw [HLY.out]; exact hym) (by rw [← HQD.out, HLX.out, HLY.out]; exact hwb)
        have hBb : Below z w wb := by rw [hwb]; exact below_cells (below_cells (below_drewN (BWK.out.trans (hbf.mono hzk)) 1) hz2 _ _) hz2 _ _
        have hMb : Bx wb gx #[.int .i64 i, .slice (some ⟨g, 0, none⟩) q N] 24 := by rw [hwb]; exact bx_cells (bx_cells ((HXK.out _ hbf).drewN 1) HNE.out _ _) HNE.out _ _
        have hTb : Bx wb w.heap.size #[.slice A n c, .slice B m d] 38 := by rw [hwb]; exact bx_cells (bx_cells (((HS.out _ hbf).1).drewN 1) HGN.out _ _) HGN.out _ _
        have hSb : Bx wb w.heap.size #[.slice A n c, .slice B m d] 38 ∧ wb.cell? ⟨gx, 0, none⟩ = some (.int .i64 i) ∧ wb.cell? ⟨gx, 1, none⟩ = some (.slice (some ⟨g, 0, none⟩) q N) ∧ wb.cell? ⟨w.heap.size, 0, none⟩ = some (.slice A n c) := ⟨hTb, by have := hMb.cell 0; simpa using this, by have := hMb.cell 1; simpa using this, by have := hTb.cell 0; simpa using this⟩
        refine hK.out _ _ (fun _ _ => hSb) ?_
        clear hSb hTb
        (try simp only [Act.put, List.getElem_toArray, List.getElem_cons_zero, List.getElem_cons_succ, List.setIfInBounds_toArray, List.set_cons_zero, List.set_cons_succ])
        have kx1 := hMb.cell 1
        clear hwb
        have kf1 := hMb.free 1
        simp at kx1
        refine wpAnyX_pure (i := 10) (v := ?_) rfl (by kernel_rfl) (by kernel_rfl) (by kernel_rfl) (fun _ _ _ h => h) (Or.inl ⟨by rfl, ?_⟩) ?_
        rotate_left
        · (intro W _; go_simp; try with_reducible rfl)
        (try simp only [Act.put, List.getElem_toArray, List.getElem_cons_zero, List.getElem_cons_succ, List.setIfInBounds_toArray, List.set_cons_zero, List.set_cons_succ])
        refine wpAnyX_pure (i := 11) (v := ?_) rfl (by kernel_rfl) (by kernel_rfl) (by kernel_rfl) (fun _ _ _ h => h) (Or.inl ⟨by rfl, ?_⟩) ?_
        rotate_left
        · (intro W _; go_simp; try with_reducible rfl)
        (try simp only [Act.put, List.getElem_toArray, List.getElem_cons_zero, List.getElem_cons_succ, List.setIfInBounds_toArray, List.set_cons_zero, List.set_cons_succ])
        refine wpAnyX_one (i := 12) rfl (by kernel_rfl) (fun K hK => ?_)
        go_simp
        refine hK.out _ _ (fun h => absurd h (by decide)) ?_
        (try simp only [Act.put, List.getElem_toArray, List.getElem_cons_zero, List.getElem_cons_succ, List.setIfInBounds_toArray, List.set_cons_zero, List.set_cons_succ])
        refine wpAnyX_done (by kernel_rfl) ?_ _
        have HRES := Lib.hid (TrO.boxed htr hMb (.slice (some ⟨g, 0, none⟩) (q + 1) N))
        have HMF := Lib.hid (hMb.on1 (.slice (some ⟨g, 0, none⟩) (q + 1) N))
        have HBF := Lib.hid (hBb.setCell (p := ⟨gx, 1, none⟩) hz1 (.slice (some ⟨g, 0, none⟩) (q + 1) N))
        clear hbf o1 o2 hv9 htr hMb hBb
        go_wp2_with fail
        go_ret
        exact ⟨0, _, rfl, ⟨best, by rw [← HKN.out]; exact HG.out, .inr (.inr (.inr (.inr ⟨HPR.out, HAG.out, HLT.out, by rw [← HD.out, ← HQD.out]; omega, rfl, p, by rw [← HD.out, ← HQD.out]; exact hpq, by rw [← HD.out]; exact HLO.out, by rw [← HD.out, ← HQD.out]; exact HHI.out, rfl⟩)))⟩, HBF.out, fun _ => ⟨cur', by rw [← HD.out, ins_len (by rw [← HQD.out]; exact hpq), ← HQD.out]; exact HMF.out, by rw [← HD.out]; exact HRES.out⟩⟩
      obtain rfl : q = p := by omega
      go_simp
      go_at_call 123
      refine (pins_end g q N w9.heap.size cuk _ _ wa (HTK.out _ hbf).bx hv9 (by omega) hcapN hszk.out rfl rfl).mono ?_
      rintro r wb ⟨rfl, hwb⟩
      obtain ⟨cur', htr⟩ := TrO.pushed (w1 := wb) (HTK.out _ hbf) (by rw [← HQD.out]; omega) (xs := xs) (ys := ys) (B1 := B1) (B2 := B2) (d1 := d1) (d2 := d2) (by rw [HLX.out]; exact o1) (by rw [HLY.out]; exact o2) (by rw [HLX.out]; exact hxm) (by rw [HLY.out]; exact hym) (by rw [← HQD.out, HLX.out, HLY.out]; exact hwb)
      have htr : TrO wb base g N cur' ((ts).take q ++ (xs, ys) :: (ts).drop q) := by rw [List.take_of_length_le (by rw [← HQD.out]; omega), List.drop_eq_nil_of_le (by rw [← HQD.out]; omega)]; exact htr
      have hBb : Below z w wb := by rw [hwb]; exact below_setRow (BWK.out.trans (hbf.mono hzk)) hz2 _
      have hMb : Bx wb gx #[.int .i64 i, .slice (some ⟨g, 0, none⟩) q N] 24 := by rw [hwb]; exact (HXK.out _ hbf).rowOther HNE.out _
      have hTb : Bx wb w.heap.size #[.slice A n c, .slice B m d] 38 := by rw [hwb]; exact ((HS.out _ hbf).1).rowOther HGN.out _
      have hSb : Bx wb w.heap.size #[.slice A n c, .slice B m d] 38 ∧ wb.cell? ⟨gx, 0, none⟩ = some (.int .i64 i) ∧ wb.cell? ⟨gx, 1, none⟩ = some (.slice (some ⟨g, 0, none⟩) q N) ∧ wb.cell? ⟨w.heap.size, 0, none⟩ = some (.slice A n c) := ⟨hTb, by have := hMb.cell 0; simpa using this, by have := hMb.cell 1; simpa using this, by have := hTb.cell 0; simpa using this⟩
      refine hK.out _ _ (fun _ _ => hSb) ?_
      clear hSb hTb
      (try simp only [Act.put, List.getElem_toArray, List.getElem_cons_zero, List.getElem_cons_succ, List.setIfInBounds_toArray, List.set_cons_zero, List.set_cons_succ])
      have kx1 := hMb.cell 1
      clear hwb
      have kf1 := hMb.free 1
      simp at kx1
      refine wpAnyX_pure (i := 10) (v := ?_) rfl (by kernel_rfl) (by kernel_rfl) (by kernel_rfl) (fun _ _ _ h => h) (Or.inl ⟨by rfl, ?_⟩) ?_
      rotate_left
      · (intro W _; go_simp; try with_reducible rfl)
      (try simp only [Act.put, List.getElem_toArray, List.getElem_cons_zero, List.getElem_cons_succ, List.setIfInBounds_toArray, List.set_cons_zero, List.set_cons_succ])
      refine wpAnyX_pure (i := 11) (v := ?_) rfl (by kernel_rfl) (by kernel_rfl) (by kernel_rfl) (fun _ _ _ h => h) (Or.inl ⟨by rfl, ?_⟩) ?_
      rotate_left
      · (intro W _; go_simp; try with_reducible rfl)
      (try simp only [Act.put, List.getElem_toArray, List.getElem_cons_zero, List.getElem_cons_succ, List.setIfInBounds_toArray, List.set_cons_zero, List.set_cons_succ])
      refine wpAnyX_one (i := 12) rfl (by kernel_rfl) (fun K hK => ?_)
      go_simp
      refine hK.out _ _ (fun h => absurd h (by decide)) ?_
      (try simp only [Act.put, List.getElem_toArray, List.getElem_cons_zero, List.getElem_cons_succ, List.setIfInBounds_toArray, List.set_cons_zero, List.set_cons_succ])
      refine wpAnyX_done (by kernel_rfl) ?_ _
      have HRES := Lib.hid (TrO.boxed htr hMb (.slice (some ⟨g, 0, none⟩) (q + 1) N))
      have HMF := Lib.hid (hMb.on1 (.slice (some ⟨g, 0, none⟩) (q + 1) N))
      have HBF := Lib.hid (hBb.setCell (p := ⟨gx, 1, none⟩) hz1 (.slice (some ⟨g, 0, none⟩) (q + 1) N))
      clear hbf o1 o2 hv9 htr hMb hBb
      go_wp2_with fail
      go_ret
      exact ⟨0, _, rfl, ⟨best, by rw [← HKN.out]; exact HG.out, .inr (.inr (.inr (.inr ⟨HPR.out, HAG.out, HLT.out, by rw [← HD.out, ← HQD.out]; omega, rfl, q, by rw [← HD.out, ← HQD.out]; exact hpq, by rw [← HD.out]; exact HLO.out, by rw [← HD.out, ← HQD.out]; exact HHI.out, rfl⟩)))⟩, HBF.out, fun _ => ⟨cur', by rw [← HD.out, ins_len (by rw [← HQD.out]; exact hpq), ← HQD.out]; exact HMF.out, by rw [← HD.out]; exact HRES.out⟩⟩
    · have ha0I : ¬ (0 : Int) < (a : Int) := by omega
      have k1' := (HMX.out _ hbf).cell 1
      simp at k1'
      have HMXf := Lib.hid (HMX.out _ hbf)
      have HMTf := Lib.hid (HMT.out _ hbf)
      have HTTf := Lib.hid (HTT.out _ hbf)
      have HXf := Lib.hid (HX.out _ hbf)
      have HYf := Lib.hid (HY.out _ hbf)
      have HDL := Lib.hid hdl
      clear trf hdel hdl hbf
      go_upto_region 11 with fail
      clear k1'
      have mxk := HMXf.out
      have mtk := HMTf.out
      have trk := HTTf.out
      have hik := HXf.out
      have hjk := HYf.out
      have BWK := Lib.hid (HBW.out)
      have HD := Lib.hid (HDL.out)
      have HQD := Lib.hid (show q = (ts).length from trkq)
      clear trkq
      have HSD := Lib.hid (InsD.srt HSS.out best (knw ts xs ts.length))
      rw [← HD.out] at HSD
      have k1 := mxk.cell 1
      simp at k1
      by_cases hlim : 10000 ≤ q
      · have hlI : (10000 : Int) ≤ (q : Int) := by omega
        clear mxk mtk trk hik hjk
        go_wp2_with fail
        go_ret
        exact ⟨11, [], rfl, ⟨best, by rw [← HKN.out]; exact HG.out, .inr (.inr (.inr (.inl ⟨HPR.out, HAG.out, HLT.out, by rw [← HD.out, ← HQD.out]; exact hlim, rfl⟩)))⟩, BWK.out, fun h => absurd h (by decide)⟩
      have hlI : ¬ (10000 : Int) ≤ (q : Int) := by omega
      have HS := Lib.hid (show ∀ W, Below w4.heap.size w4 W → Bx W w.heap.size #[.slice A n c, .slice B m d] 38 ∧ W.cell? ⟨gx, 0, none⟩ = some (.int .i64 i) ∧ W.cell? ⟨gx, 1, none⟩ = some (.slice (some ⟨g, 0, none⟩) q N) ∧ W.cell? ⟨w.heap.size, 0, none⟩ = some (.slice A n c) from fun W h => ⟨(mtk).on h, by have := ((mxk).on h).cell 0; simpa using this, by have := ((mxk).on h).cell 1; simpa using this, by have := ((mtk).on h).cell 0; simpa using this⟩)
      have HIK := Lib.hid (fun (W : World) (h : Below w4.heap.size w4 W) => hik.below h)
      have HJK := Lib.hid (fun (W : World) (h : Below w4.heap.size w4 W) => hjk.below h)
      have HTK := Lib.hid (fun (W : World) (h : Below w4.heap.size w4 W) => trk.below h)
      have HXK := Lib.hid (fun (W : World) (h : Below w4.heap.size w4 W) => mxk.on h)
      have hzk : z ≤ w4.heap.size := Nat.le_trans hz1 (Nat.le_of_lt mxk.lt)
      have hgk : g < w4.heap.size := trk.bx.lt
      have hszk := Lib.hid trk.sz
      have honek := Lib.hid trk.one
      have HNE := Lib.hid (obs_ne_trace mxk trk.bx)
      clear mxk mtk trk hik hjk
      go_upto_region 13 with fail
      have hbf : Below w4.heap.size w4 w4.drew := below_drewN (Below.refl _ _) 1
      refine wp_region_heldX (X := fun k => ([] : List Nat).contains k) (S := fun W => Bx W w.heap.size #[.slice A n c, .slice B m d] 38 ∧ W.cell? ⟨gx, 0, none⟩ = some (.int .i64 i) ∧ W.cell? ⟨gx, 1, none⟩ = some (.slice (some ⟨g, 0, none⟩) q N) ∧ W.cell? ⟨w.heap.size, 0, none⟩ = some (.slice A n c)) (by kernel_rfl) ?_
      generalize w4.drew = wkd at hbf ⊢
      refine wpAnyX_pure (i := 0) (v := ?_) rfl (by kernel_rfl) (by kernel_rfl) (by kernel_rfl) (fun _ _ _ h => h) (Or.inl ⟨by rfl, ?_⟩) ?_
      rotate_left
      · (intro W _; go_simp; try with_reducible rfl)
      (try simp only [Act.put, List.getElem_toArray, List.getElem_cons_zero, List.getElem_cons_succ, List.setIfInBounds_toArray, List.set_cons_zero, List.set_cons_succ])
      refine wpAnyX_pure (i := 1) (v := ?_) rfl (by kernel_rfl) (by kernel_rfl) (by kernel_rfl) (fun _ _ _ h => h) (Or.inl ⟨by rfl, ?_⟩) ?_
      rotate_left
      · (intro W _; go_simp; try with_reducible rfl)
      (try simp only [Act.put, List.getElem_toArray, List.getElem_cons_zero, List.getElem_cons_succ, List.setIfInBounds_toArray, List.set_cons_zero, List.set_cons_succ])
      refine wpAnyX_pure (i := 2) (v := ?_) rfl (by kernel_rfl) (by kernel_rfl) (by kernel_rfl) (fun _ _ _ h => h) (Or.inl ⟨by rfl, ?_⟩) ?_
      rotate_left
      · (intro W _; go_simp; try with_reducible rfl)
      (try simp only [Act.put, List.getElem_toArray, List.getElem_cons_zero, List.getElem_cons_succ, List.setIfInBounds_toArray, List.set_cons_zero, List.set_cons_succ])
      refine wpAnyX_takeL (L := []) (i := 3) (v := ?_) rfl (by kernel_rfl) (by kernel_rfl) (by kernel_rfl) (by kernel_rfl) (fun _ _ _ h => h) (Or.inl ⟨by rfl, ?_⟩) (HS.out _ hbf) ?_
      rotate_left
      · (intro W hSW; (try dsimp only at hSW); obtain ⟨z0, z1, z2, z3⟩ := hSW; go_simp; try with_reducible rfl)
      (try simp only [Act.put, List.getElem_toArray, List.getElem_cons_zero, List.getElem_cons_succ, List.setIfInBounds_toArray, List.set_cons_zero, List.set_cons_succ])
      refine wpAnyX_pure (i := 4) (v := ?_) rfl (by kernel_rfl) (by kernel_rfl) (by kernel_rfl) (fun _ _ _ h => h) (Or.inl ⟨by rfl, ?_⟩) ?_
      rotate_left
      · (intro W _; go_simp; try with_reducible rfl)
      (try simp only [Act.put, List.getElem_toArray, List.getElem_cons_zero, List.getElem_cons_succ, List.setIfInBounds_toArray, List.set_cons_zero, List.set_cons_succ])
      refine wpAnyX_takeL (L := []) (i := 5) (v := ?_) rfl (by kernel_rfl) (by kernel_rfl) (by kernel_rfl) (by kernel_rfl) (fun _ _ _ h => h) (Or.inl ⟨by rfl, ?_⟩) (HS.out _ hbf) ?_
      rotate_left
      · (intro W hSW; (try dsimp only at hSW); obtain ⟨z0, z1, z2, z3⟩ := hSW; go_simp; try with_reducible rfl)
      (try simp only [Act.put, List.getElem_toArray, List.getElem_cons_zero, List.getElem_cons_succ, List.setIfInBounds_toArray, List.set_cons_zero, List.set_cons_succ])
      refine wpAnyX_one (i := 6) rfl (by kernel_rfl) (fun K hK => ?_)
      go_simp
      go_at_call 103
      refine (pplace (some ⟨g, 0, none⟩) A q N n c (ts) xs _ (by rw [HQD.out]; exact (HTK.out _ hbf).trs) (HIK.out _ hbf) HSD.out).mono ?_
      rintro r w8 ⟨p, pv, rfl, hpq, HLO, HHI, b9⟩
      have hbf := bt hbf b9
      clear b9
      refine hK.out _ _ (fun _ _ => HS.out _ hbf) ?_
      (try simp only [Act.put, List.getElem_toArray, List.getElem_cons_zero, List.getElem_cons_succ, List.setIfInBounds_toArray, List.set_cons_zero, List.set_cons_succ])
      refine wpAnyX_pure (i := 7) (v := ?_) rfl (by kernel_rfl) (by kernel_rfl) (by kernel_rfl) (fun _ _ _ h => h) (Or.inl ⟨by rfl, ?_⟩) ?_
      rotate_left
      · (intro W _; go_simp; try with_reducible rfl)
      (try simp only [Act.put, List.getElem_toArray, List.getElem_cons_zero, List.getElem_cons_succ, List.setIfInBounds_toArray, List.set_cons_zero, List.set_cons_succ])
      refine wpAnyX_pure (i := 8) (v := ?_) rfl (by kernel_rfl) (by kernel_rfl) (by kernel_rfl) (fun _ _ _ h => h) (Or.inl ⟨by rfl, ?_⟩) ?_
      rotate_left
      · (intro W _; go_simp; try with_reducible rfl)
      (try simp only [Act.put, List.getElem_toArray, List.getElem_cons_zero, List.getElem_cons_succ, List.setIfInBounds_toArray, List.set_cons_zero, List.set_cons_succ])
      refine wpAnyX_pure (i := 9) (v := ?_) rfl (by kernel_rfl) (by kernel_rfl) (by kernel_rfl) (fun _ _ _ h => h) (Or.inl ⟨by rfl, ?_⟩) ?_
      rotate_left
      · (intro W _; go_simp; try with_reducible rfl)
      (try simp only [Act.put, List.getElem_toArray, List.getElem_cons_zero, List.getElem_cons_succ, List.setIfInBounds_toArray, List.set_cons_zero, List.set_cons_succ])
      refine wpAnyX_pure (i := 10) (v := ?_) rfl (by kernel_rfl) (by kernel_rfl) (by kernel_rfl) (fun _ _ _ h => h) (Or.inl ⟨by rfl, ?_⟩) ?_
      rotate_left
      · (intro W _; go_simp; try with_reducible rfl)
      (try simp only [Act.put, List.getElem_toArray, List.getElem_cons_zero, List.getElem_cons_succ, List.setIfInBounds_toArray, List.set_cons_zero, List.set_cons_succ])
      refine wpAnyX_pure (i := 11) (v := ?_) rfl (by kernel_rfl) (by kernel_rfl) (by kernel_rfl) (fun _ _ _ h => h) (Or.inl ⟨by rfl, ?_⟩) ?_
      rotate_left
      · (intro W _; go_simp; try with_reducible rfl)
      (try simp only [Act.put, List.getElem_toArray, List.getElem_cons_zero, List.getElem_cons_succ, List.setIfInBounds_toArray, List.set_cons_zero, List.set_cons_succ])
      refine wpAnyX_done (by kernel_rfl) ?_ _
      go_upto_region 14 with fail
      have hbf : Below w4.heap.size w4 w8.drew := below_drewN hbf 1
      refine wp_region_heldX (X := fun k => ([12] : List Nat).contains k) (S := fun W => Bx W w.heap.size #[.slice A n c, .slice B m d] 38 ∧ W.cell? ⟨gx, 0, none⟩ = some (.int .i64 i) ∧ W.cell? ⟨gx, 1, none⟩ = some (.slice (some ⟨g, 0, none⟩) q N) ∧ W.cell? ⟨w.heap.size, 0, none⟩ = some (.slice A n c)) (by kernel_rfl) ?_
      generalize w8.drew = wkd at hbf ⊢
      refine wpAnyX_pure (i := 0) (v := ?_) rfl (by kernel_rfl) (by kernel_rfl) (by kernel_rfl) (fun _ _ _ h => h) (Or.inl ⟨by rfl, ?_⟩) ?_
      rotate_left
      · (intro W _; go_simp; try with_reducible rfl)
      (try simp only [Act.put, List.getElem_toArray, List.getElem_cons_zero, List.getElem_cons_succ, List.setIfInBounds_toArray, List.set_cons_zero, List.set_cons_succ])
      refine wpAnyX_pure (i := 1) (v := ?_) rfl (by kernel_rfl) (by kernel_rfl) (by kernel_rfl) (fun _ _ _ h => h) (Or.inl ⟨by rfl, ?_⟩) ?_
      rotate_left
      · (intro W _; go_simp; try with_reducible rfl)
      (try simp only [Act.put, List.getElem_toArray, List.getElem_cons_zero, List.getElem_cons_succ, List.setIfInBounds_toArray, List.set_cons_zero, List.set_cons_succ])
      refine wpAnyX_pure (i := 2) (v := ?_) rfl (by kernel_rfl) (by kernel_rfl) (by kernel_rfl) (fun _ _ _ h => h) (Or.inl ⟨by rfl, ?_⟩) ?_
      rotate_left
      · (intro W _; go_simp; try with_reducible rfl)
      (try simp only [Act.put, List.getElem_toArray, List.getElem_cons_zero, List.getElem_cons_succ, List.setIfInBounds_toArray, List.set_cons_zero, List.set_cons_succ])
      refine wpAnyX_pure (i := 3) (v := ?_) rfl (by kernel_rfl) (by kernel_rfl) (by kernel_rfl) (fun _ _ _ h => h) (Or.inl ⟨by rfl, ?_⟩) ?_
      rotate_left
      · (intro W _; go_simp; try with_reducible rfl)
      (try simp only [Act.put, List.getElem_toArray, List.getElem_cons_zero, List.getElem_cons_succ, List.setIfInBounds_toArray, List.set_cons_zero, List.set_cons_succ])
      refine wpAnyX_takeL (L := [12]) (i := 4) (v := ?_) rfl (by kernel_rfl) (by kernel_rfl) (by kernel_rfl) (by kernel_rfl) (fun _ _ _ h => h) (Or.inl ⟨by rfl, ?_⟩) (HS.out _ hbf) ?_
      rotate_left
      · (intro W hSW; (try dsimp only at hSW); obtain ⟨z0, z1, z2, z3⟩ := hSW; go_simp; try with_reducible rfl)
      (try simp only [Act.put, List.getElem_toArray, List.getElem_cons_zero, List.getElem_cons_succ, List.setIfInBounds_toArray, List.set_cons_zero, List.set_cons_succ])
      refine wpAnyX_pure (i := 5) (v := ?_) rfl (by kernel_rfl) (by kernel_rfl) (by kernel_rfl) (fun _ _ _ h => h) (Or.inl ⟨by rfl, ?_⟩) ?_
      rotate_left
      · (intro W _; go_simp; try with_reducible rfl)
      (try simp only [Act.put, List.getElem_toArray, List.getElem_cons_zero, List.getElem_cons_succ, List.setIfInBounds_toArray, List.set_cons_zero, List.set_cons_succ])
      refine wpAnyX_takeL (L := [12]) (i := 6) (v := .agg (#[.slice A n c, .slice B m d])) rfl (by kernel_rfl) (by kernel_rfl) (by kernel_rfl) (by kernel_rfl) (fun _ _ _ h => h) (Or.inl ⟨by rfl, fun W hSW => run_load_bx 38 _ rfl (w.heap.size) rfl 38 (#[.slice A n c, .slice B m d]) (0, 0) _ (hSW.1) Try.underlying38 rfl (by kernel_rfl)⟩) (HS.out _ hbf) ?_
      (try simp only [Act.put, List.getElem_toArray, List.getElem_cons_zero, List.getElem_cons_succ, List.setIfInBounds_toArray, List.set_cons_zero, List.set_cons_succ])
      refine wpAnyX_one (i := 7) rfl (by kernel_rfl) (fun K hK => ?_)
      go_simp
      go_at_call 105
      refine (pcopied16 A B n c m d xs ys _ (HIK.out _ hbf) (HJK.out _ hbf)).mono ?_
      rintro r w9 ⟨B1, B2, d1, d2, rfl, o1, o2, b9⟩
      have o1 := o1.lower (base' := base) (Nat.le_trans (Nat.le_trans hbz hzk) hbf.size)
      have o2 := o2.lower (base' := base) (Nat.le_trans (Nat.le_trans hbz hzk) hbf.size)
      have hbf := bt hbf b9
      clear b9
      refine hK.out _ _ (fun _ _ => HS.out _ hbf) ?_
      (try simp only [Act.put, List.getElem_toArray, List.getElem_cons_zero, List.getElem_cons_succ, List.setIfInBounds_toArray, List.set_cons_zero, List.set_cons_succ])
      refine wpAnyX_one (i := 8) rfl (by kernel_rfl) (fun K hK => ?_)
      go_simp
      have l9 := alloc_below w9 (.cells #[.slice B1 n d1, .slice B2 m d2] 38)
      have hv9 := bx_new w9 #[.slice B1 n d1, .slice B2 m d2] 38
      obtain ⟨wa, hwa⟩ : ∃ wa, wa = w9.alloc (.cells #[.slice B1 n d1, .slice B2 m d2] 38) := ⟨_, rfl⟩
      rw [← hwa] at l9 hv9 ⊢
      have o1 := o1.kept l9
      have o2 := o2.kept l9
      have hgv : w9.heap.size ≠ g := by have := hbf.size; omega
      have hbf := bt hbf l9
      clear l9 hwa
      refine hK.out _ _ (fun _ _ => HS.out _ hbf) ?_
      (try simp only [Act.put, List.getElem_toArray, List.getElem_cons_zero, List.getElem_cons_succ, List.setIfInBounds_toArray, List.set_cons_zero, List.set_cons_succ])
      refine wpAnyX_one (i := 9) rfl (by kernel_rfl) (fun K hK => ?_)
      by_cases hpe : p < q
      · go_simp
        go_at_call 123
        refine (pins_shift g q N p w9.heap.size cuk _ _ wa (HTK.out _ hbf).bx hv9 hgv (by omega) (by omega) hcapN hszk.out honek.out rfl rfl).mono ?_
        rintro r wb ⟨rfl, hwb⟩
        obtain ⟨cur', htr⟩ := TrO.shifted (w1 := wb) (HTK.out _ hbf) (p := p) (by rw [← HQD.out]; exact hpq) (by rw [← HQD.out]; omega) (xs := xs) (ys := ys) (B1 := B1) (B2 := B2) (d1 := d1) (d2 := d2) (by rw [HLX.out]; exact o1) (by rw [HLY.out]; exact o2) (by rw [HLX.out]; exact hxm) (by rw [HLY.out]; exact hym) (by rw [← HQD.out, HLX.out, HLY.out]; exact hwb)
        have hBb : Below z w wb := by rw [hwb]; exact below_cells (below_cells (below_drewN (BWK.out.trans (hbf.mono hzk)) 1) hz2 _ _) hz2 _ _
        have hMb : Bx wb gx #[.int .i64 i, .slice (some ⟨g, 0, none⟩) q N] 24 := by rw [hwb]; exact bx_cells (bx_cells ((HXK.out _ hbf).drewN 1) HNE.out _ _) HNE.out _ _
        have hTb : Bx wb w.heap.size #[.slice A n c, .slice B m d] 38 := by rw [hwb]; exact bx_cells (bx_cells (((HS.out _ hbf).1).drewN 1) HGN.out _ _) HGN.out _ _
        have hSb : Bx wb w.heap.size #[.slice A n c, .slice B m d] 38 ∧ wb.cell? ⟨gx, 0, none⟩ = some (.int .i64 i) ∧ wb.cell? ⟨gx, 1, none⟩ = some (.slice (some ⟨g, 0, none⟩) q N) ∧ wb.cell? ⟨w.heap.size, 0, none⟩ = some (.slice A n c) := ⟨hTb, by have := hMb.cell 0; simpa using this, by have := hMb.cell 1; simpa using this, by have := hTb.cell 0; simpa using this⟩
        refine hK.out _ _ (fun _ _ => hSb) ?_
        clear hSb hTb
        (try simp only [Act.put, List.getElem_toArray, List.getElem_cons_zero, List.getElem_cons_succ, List.setIfInBounds_toArray, List.set_cons_zero, List.set_cons_succ])
        have kx1 := hMb.cell 1
        clear hwb
        have kf1 := hMb.free 1
        simp at kx1
        refine wpAnyX_pure (i := 10) (v := ?_) rfl (by kernel_rfl) (by kernel_rfl) (by kernel_rfl) (fun _ _ _ h => h) (Or.inl ⟨by rfl, ?_⟩) ?_
        rotate_left
        · (intro W _; go_simp; try with_reducible rfl)
        (try simp only [Act.put, List.getElem_toArray, List.getElem_cons_zero, List.getElem_cons_succ, List.setIfInBounds_toArray, List.set_cons_zero, List.set_cons_succ])
        refine wpAnyX_pure (i := 11) (v := ?_) rfl (by kernel_rfl) (by kernel_rfl) (by kernel_rfl) (fun _ _ _ h => h) (Or.inl ⟨by rfl, ?_⟩) ?_
        rotate_left
        · (intro W _; go_simp; try with_reducible rfl)
        (try simp only [Act.put, List.getElem_toArray, List.getElem_cons_zero, List.getElem_cons_succ, List.setIfInBounds_toArray, List.set_cons_zero, List.set_cons_succ])
        refine wpAnyX_one (i := 12) rfl (by kernel_rfl) (fun K hK => ?_)
        go_simp
        refine hK.out _ _ (fun h => absurd h (by decide)) ?_
        (try simp only [Act.put, List.getElem_toArray, List.getElem_cons_zero, List.getElem_cons_succ, List.setIfInBounds_toArray, List.set_cons_zero, List.set_cons_succ])
        refine wpAnyX_done (by kernel_rfl) ?_ _
        have HRES := Lib.hid (TrO.boxed htr hMb (.slice (some ⟨g, 0, none⟩) (q + 1) N))
        have HMF := Lib.hid (hMb.on1 (.slice (some ⟨g, 0, none⟩) (q + 1) N))
        have HBF := Lib.hid (hBb.setCell (p := ⟨gx, 1, none⟩) hz1 (.slice (some ⟨g, 0, none⟩) (q + 1) N))
        clear hbf o1 o2 hv9 htr hMb hBb
        go_wp2_with fail
        go_ret
        exact ⟨0, _, rfl, ⟨best, by rw [← HKN.out]; exact HG.out, .inr (.inr (.inr (.inr ⟨HPR.out, HAG.out, HLT.out, by rw [← HD.out, ← HQD.out]; omega, rfl, p, by rw [← HD.out, ← HQD.out]; exact hpq, by rw [← HD.out]; exact HLO.out, by rw [← HD.out, ← HQD.out]; exact HHI.out, rfl⟩)))⟩, HBF.out, fun _ => ⟨cur', by rw [← HD.out, ins_len (by rw [← HQD.out]; exact hpq), ← HQD.out]; exact HMF.out, by rw [← HD.out]; exact HRES.out⟩⟩
      obtain rfl : q = p := by omega
      go_simp
      go_at_call 123
      refine (pins_end g q N w9.heap.size cuk _ _ wa (HTK.out _ hbf).bx hv9 (by omega) hcapN hszk.out rfl rfl).mono ?_
      rintro r wb ⟨rfl, hwb⟩
      obtain ⟨cur', htr⟩ := TrO.pushed (w1 := wb) (HTK.out _ hbf) (by rw [← HQD.out]; omega) (xs := xs) (ys := ys) (B1 := B1) (B2 := B2) (d1 := d1) (d2 := d2) (by rw [HLX.out]; exact o1) (by rw [HLY.out]; exact o2) (by rw [HLX.out]; exact hxm) (by rw [HLY.out]; exact hym) (by rw [← HQD.out, HLX.out, HLY.out]; exact hwb)
      have htr : TrO wb base g N cur' ((ts).take q ++ (xs, ys) :: (ts).drop q) := by rw [List.take_of_length_le (by rw [← HQD.out]; omega), List.drop_eq_nil_of_le (by rw [← HQD.out]; omega)]; exact htr
      have hBb : Below z w wb := by rw [hwb]; exact below_setRow (BWK.out.trans (hbf.mono hzk)) hz2 _
      have hMb : Bx wb gx #[.int .i64 i, .slice (some ⟨g, 0, none⟩) q N] 24 := by rw [hwb]; exact (HXK.out _ hbf).rowOther HNE.out _
      have hTb : Bx wb w.heap.size #[.slice A n c, .slice B m d] 38 := by rw [hwb]; exact ((HS.out _ hbf).1).rowOther HGN.out _
      have hSb : Bx wb w.heap.size #[.slice A n c, .slice B m d] 38 ∧ wb.cell? ⟨gx, 0, none⟩ = some (.int .i64 i) ∧ wb.cell? ⟨gx, 1, none⟩ = some (.slice (some ⟨g, 0, none⟩) q N) ∧ wb.cell? ⟨w.heap.size, 0, none⟩ = some (.slice A n c) := ⟨hTb, by have := hMb.cell 0; simpa using this, by have := hMb.cell 1; simpa using this, by have := hTb.cell 0; simpa using this⟩
      refine hK.out _ _ (fun _ _ => hSb) ?_
      clear hSb hTb
      (try simp only [Act.put, List.getElem_toArray, List.getElem_cons_zero, List.getElem_cons_succ, List.setIfInBounds_toArray, List.set_cons_zero, List.set_cons_succ])
      have kx1 := hMb.cell 1
      clear hwb
      have kf1 := hMb.free 1
      simp at kx1
      refine wpAnyX_pure (i := 10) (v := ?_) rfl (by kernel_rfl) (by kernel_rfl) (by kernel_rfl) (fun _ _ _ h => h) (Or.inl ⟨by rfl, ?_⟩) ?_
      rotate_left
      · (intro W _; go_simp; try with_reducible rfl)
      (try simp only [Act.put, List.getElem_toArray, List.getElem_cons_zero, List.getElem_cons_succ, List.setIfInBounds_toArray, List.set_cons_zero, List.set_cons_succ])
      refine wpAnyX_pure (i := 11) (v := ?_) rfl (by kernel_rfl) (by kernel_rfl) (by kernel_rfl) (fun _ _ _ h => h) (Or.inl ⟨by rfl, ?_⟩) ?_
      rotate_left
      · (intro W _; go_simp; try with_reducible rfl)
      (try simp only [Act.put, List.getElem_toArray, List.getElem_cons_zero, List.getElem_cons_succ, List.setIfInBounds_toArray, List.set_cons_zero, List.set_cons_succ])
      refine wpAnyX_one (i := 12) rfl (by kernel_rfl) (fun K hK => ?_)
      go_simp
      refine hK.out _ _ (fun h => absurd h (by decide)) ?_
      (try simp only [Act.put, List.getElem_toArray, List.getElem_cons_zero, List.getElem_cons_succ, List.setIfInBounds_toArray, List.set_cons_zero, List.set_cons_succ])
      refine wpAnyX_done (by kernel_rfl) ?_ _
      have HRES := Lib.hid (TrO.boxed htr hMb (.slice (some ⟨g, 0, none⟩) (q + 1) N))
      have HMF := Lib.hid (hMb.on1 (.slice (some ⟨g, 0, none⟩) (q + 1) N))
      have HBF := Lib.hid (hBb.setCell (p := ⟨gx, 1, none⟩) hz1 (.slice (some ⟨g, 0, none⟩) (q + 1) N))
      clear hbf o1 o2 hv9 htr hMb hBb
      go_wp2_with fail
      go_ret
      exact ⟨0, _, rfl, ⟨best, by rw [← HKN.out]; exact HG.out, .inr (.inr (.inr (.inr ⟨HPR.out, HAG.out, HLT.out, by rw [← HD.out, ← HQD.out]; omega, rfl, q, by rw [← HD.out, ← HQD.out]; exact hpq, by rw [← HD.out]; exact HLO.out, by rw [← HD.out, ← HQD.out]; exact HHI.out, rfl⟩)))⟩, HBF.out, fun _ => ⟨cur', by rw [← HD.out, ins_len (by rw [← HQD.out]; exact hpq), ← HQD.out]; exact HMF.out, by rw [← HD.out]; exact HRES.out⟩⟩
  obtain ⟨ha0, hal2⟩ := hdel
  have hbq : best < q := (HBB.out ha0).1
  obtain ⟨qd, rfl⟩ : ∃ qd, q = qd + 1 := ⟨q - 1, by omega⟩
  obtain ⟨dd, hdd⟩ : ∃ dd, dd = ts.eraseIdx best := ⟨_, rfl⟩
  have HDL := Lib.hid (show dd = InsD ts best (knw ts xs ts.length) by rw [hdd]; unfold InsD; rw [← HKN.out, if_pos ⟨ha0, hal2⟩])
  have HDD := Lib.hid hdd
  clear hdd
  have trf := HTT.out _ hbf
  obtain ⟨A1, q1, A2, q2, e1, e2, p1, p2⟩ := trf.hd best (by rw [← HQ.out]; exact hbq)
  have ha0I : (0 : Int) < (a : Int) := by omega
  have hbI : (best : Int) < ((qd + 1 : Nat) : Int) := by omega
  have hbI0 : (0 : Int) ≤ (best : Int) := by omega
  have heqL : ((a : Int) == ((tIn ts best).length : Int)) = true := by simp; omega
  have kb : w4.cell? ⟨g, best * 2, none⟩ = some (.slice A1 (tIn ts best).length q1) := by rw [trf.bx.cell]; exact e1
  have k1' := (HMX.out _ hbf).cell 1
  simp at k1'
  have HDE := Lib.hid (pdel16 g (qd + 1) N best cur w4 trf.bx hbq (by omega) hcapN trf.sz trf.one)
  have HMXf := Lib.hid (HMX.out _ hbf)
  have HMTf := Lib.hid (HMT.out _ hbf)
  have HTTf := Lib.hid (HTT.out _ hbf)
  have HALE := Lib.hid hal2
  have HBQ := Lib.hid hbq
  have wb1 : IntKind.i64.wrap ((best : Int) + 1) = ((best + 1 : Nat) : Int) := by rw [IntKind.wrap_i64]; omega
  clear e1 e2 p1 p2 trf hal2 hbf
  go_wp2_with fail
  refine HDE.out.mono ?_
  rintro r w5 ⟨rfl, hw5⟩
  obtain ⟨cuk, trd⟩ := TrO.deleted (w1 := w5) HTTf.out (p := best) (by rw [← HQ.out]; exact HBQ.out) (by rw [← HQ.out]; exact hw5)
  rw [← HDD.out] at trd
  have hM5 : Bx w5 gx #[.int .i64 i, .slice (some ⟨g, 0, none⟩) (qd + 1) N] 24 := by rw [hw5]; exact bx_cells (bx_cells (HMXf.out.drewN 1) (obs_ne_trace HMXf.out HTTf.out.bx) _ _) (obs_ne_trace HMXf.out HTTf.out.bx) _ _
  have hT5 : Bx w5 w.heap.size #[.slice A n c, .slice B m d] 38 := by rw [hw5]; exact bx_cells (bx_cells (HMTf.out.drewN 1) HGN.out _ _) HGN.out _ _
  have hB5 : Below z w w5 := by rw [hw5]; exact below_cells (below_cells (below_drewN HBW.out 1) hz2 _ _) hz2 _ _
  have hM6 := hM5.on1 (.slice (some ⟨g, 0, none⟩) qd N)
  have hT6 := hT5.other (k := 1) HGX.out (.slice (some ⟨g, 0, none⟩) qd N)
  have hB6 := hB5.setCell (p := ⟨gx, 1, none⟩) hz1 (.slice (some ⟨g, 0, none⟩) qd N)
  have trd6 := trd.boxed hM5 (.slice (some ⟨g, 0, none⟩) qd N)
  obtain ⟨w6, hw6⟩ : ∃ w6, w6 = w5.setCell ⟨gx, 1, none⟩ (.slice (some ⟨g, 0, none⟩) qd N) := ⟨_, rfl⟩
  rw [← hw6] at hM6 hT6 hB6 trd6
  have trkq : qd = dd.length := by rw [HDD.out, List.length_eraseIdx, if_pos (by rw [← HQ.out]; exact HBQ.out), ← HQ.out]; rfl
  have HM6 := Lib.hid hM6
  have HT6 := Lib.hid hT6
  have HB6 := Lib.hid hB6
  have HTD6 := Lib.hid trd6
  have HW6 := Lib.hid hw6
  have HTRK := Lib.hid trkq
  have HXf := Lib.hid (HXZ.out _ hB6)
  have HYf := Lib.hid (HYZ.out _ hB6)
  have kx5 := hM5.cell 1
  have kf5 := hM5.free 1
  simp at kx5
  have hq1 : qd + 1 - 1 = qd := by omega
  rw [hq1]
  have hroom' : qd + 1 ≤ N := by omega
  clear hM6 hT6 hB6 trd6 hM5 hT5 hB5 hw6 hw5 trd trkq hq1 kb heqL hroom k0 k1'
  go_upto_region 11 with fail
  rw [← HW6.out]
  clear kx5 kf5
  have trkq := HTRK.out
  have mxk := HM6.out
  have mtk := HT6.out
  have trk := HTD6.out
  have hik := HXf.out
  have hjk := HYf.out
  have BWK := Lib.hid (HB6.out)
  have HD := Lib.hid (HDL.out)
  have HQD := Lib.hid (show qd = (dd).length from trkq)
  clear trkq
  have HSD := Lib.hid (InsD.srt HSS.out best (knw ts xs ts.length))
  rw [← HD.out] at HSD
  have k1 := mxk.cell 1
  simp at k1
  by_cases hlim : 10000 ≤ qd
  · have hlI : (10000 : Int) ≤ (qd : Int) := by omega
    clear mxk mtk trk hik hjk
    go_wp2_with fail
    go_ret
    exact ⟨11, [], rfl, ⟨best, by rw [← HKN.out]; exact HG.out, .inr (.inr (.inr (.inl ⟨HPR.out, HAG.out, HLT.out, by rw [← HD.out, ← HQD.out]; exact hlim, rfl⟩)))⟩, BWK.out, fun h => absurd h (by decide)⟩
  have hlI : ¬ (10000 : Int) ≤ (qd : Int) := by omega
  have HS := Lib.hid (show ∀ W, Below w6.heap.size w6 W → Bx W w.heap.size #[.slice A n c, .slice B m d] 38 ∧ W.cell? ⟨gx, 0, none⟩ = some (.int .i64 i) ∧ W.cell? ⟨gx, 1, none⟩ = some (.slice (some ⟨g, 0, none⟩) qd N) ∧ W.cell? ⟨w.heap.size, 0, none⟩ = some (.slice A n c) from fun W h => ⟨(mtk).on h, by have := ((mxk).on h).cell 0; simpa using this, by have := ((mxk).on h).cell 1; simpa using this, by have := ((mtk).on h).cell 0; simpa using this⟩)
  have HIK := Lib.hid (fun (W : World) (h : Below w6.heap.size w6 W) => hik.below h)
  have HJK := Lib.hid (fun (W : World) (h : Below w6.heap.size w6 W) => hjk.below h)
  have HTK := Lib.hid (fun (W : World) (h : Below w6.heap.size w6 W) => trk.below h)
  have HXK := Lib.hid (fun (W : World) (h : Below w6.heap.size w6 W) => mxk.on h)
  have hzk : z ≤ w6.heap.size := Nat.le_trans hz1 (Nat.le_of_lt mxk.lt)
  have hgk : g < w6.heap.size := trk.bx.lt
  have hszk := Lib.hid trk.sz
  have honek := Lib.hid trk.one
  have HNE := Lib.hid (obs_ne_trace mxk trk.bx)
  clear mxk mtk trk hik hjk
  go_upto_region 13 with fail
  have hbf : Below w6.heap.size w6 w6.drew := below_drewN (Below.refl _ _) 1
  refine wp_region_heldX (X := fun k => ([] : List Nat).contains k) (S := fun W => Bx W w.heap.size #[.slice A n c, .slice B m d] 38 ∧ W.cell? ⟨gx, 0, none⟩ = some (.int .i64 i) ∧ W.cell? ⟨gx, 1, none⟩ = some (.slice (some ⟨g, 0, none⟩) qd N) ∧ W.cell? ⟨w.heap.size, 0, none⟩ = some (.slice A n c)) (by kernel_rfl) ?_
  generalize w6.drew = wkd at hbf ⊢
  refine wpAnyX_pure (i := 0) (v := ?_) rfl (by kernel_rfl) (by kernel_rfl) (by kernel_rfl) (fun _ _ _ h => h) (Or.inl ⟨by rfl, ?_⟩) ?_
  rotate_left
  · (intro W _; go_simp; try with_reducible rfl)
  (try simp only [Act.put, List.getElem_toArray, List.getElem_cons_zero, List.getElem_cons_succ, List.setIfInBounds_toArray, List.set_cons_zero, List.set_cons_succ])
  refine wpAnyX_pure (i := 1) (v := ?_) rfl (by kernel_rfl) (by kernel_rfl) (by kernel_rfl) (fun _ _ _ h => h) (Or.inl ⟨by rfl, ?_⟩) ?_
  rotate_left
  · (intro W _; go_simp; try with_reducible rfl)
  (try simp only [Act.put, List.getElem_toArray, List.getElem_cons_zero, List.getElem_cons_succ, List.setIfInBounds_toArray, List.set_cons_zero, List.set_cons_succ])
  refine wpAnyX_pure (i := 2) (v := ?_) rfl (by kernel_rfl) (by kernel_rfl) (by kernel_rfl) (fun _ _ _ h => h) (Or.inl ⟨by rfl, ?_⟩) ?_
  rotate_left
  · (intro W _; go_simp; try with_reducible rfl)
  (try simp only [Act.put, List.getElem_toArray, List.getElem_cons_zero, List.getElem_cons_succ, List.setIfInBounds_toArray, List.set_cons_zero, List.set_cons_succ])
  refine wpAnyX_takeL (L := []) (i := 3) (v := ?_) rfl (by kernel_rfl) (by kernel_rfl) (by kernel_rfl) (by kernel_rfl) (fun _ _ _ h => h) (Or.inl ⟨by rfl, ?_⟩) (HS.out _ hbf) ?_
  rotate_left
  · (intro W hSW; (try dsimp only at hSW); obtain ⟨z0, z1, z2, z3⟩ := hSW; go_simp; try with_reducible rfl)
  (try simp only [Act.put, List.getElem_toArray, List.getElem_cons_zero, List.getElem_cons_succ, List.setIfInBounds_toArray, List.set_cons_zero, List.set_cons_succ])
  refine wpAnyX_pure (i := 4) (v := ?_) rfl (by kernel_rfl) (by kernel_rfl) (by kernel_rfl) (fun _ _ _ h => h) (Or.inl ⟨by rfl, ?_⟩) ?_
  rotate_left
  · (intro W _; go_simp; try with_reducible rfl)
  (try simp only [Act.put, List.getElem_toArray, List.getElem_cons_zero, List.getElem_cons_succ, List.setIfInBounds_toArray, List.set_cons_zero, List.set_cons_succ])
  refine wpAnyX_takeL (L := []) (i := 5) (v := ?_) rfl (by kernel_rfl) (by kernel_rfl) (by kernel_rfl) (by kernel_rfl) (fun _ _ _ h => h) (Or.inl ⟨by rfl, ?_⟩) (HS.out _ hbf) ?_
  rotate_left
  · (intro W hSW; (try dsimp only at hSW); obtain ⟨z0, z1, z2, z3⟩ := hSW; go_simp; try with_reducible rfl)
  (try simp only [Act.put, List.getElem_toArray, List.getElem_cons_zero, List.getElem_cons_succ, List.setIfInBounds_toArray, List.set_cons_zero, List.set_cons_succ])
  refine wpAnyX_one (i := 6) rfl (by kernel_rfl) (fun K hK => ?_)
  go_simp
  go_at_call 103
  refine (pplace (some ⟨g, 0, none⟩) A qd N n c (dd) xs _ (by rw [HQD.out]; exact (HTK.out _ hbf).trs) (HIK.out _ hbf) HSD.out).mono ?_
  rintro r w8 ⟨p, pv, rfl, hpq, HLO, HHI, b9⟩
  have hbf := bt hbf b9
  clear b9
  refine hK.out _ _ (fun _ _ => HS.out _ hbf) ?_
  (try simp only [Act.put, List.getElem_toArray, List.getElem_cons_zero, List.getElem_cons_succ, List.setIfInBounds_toArray, List.set_cons_zero, List.set_cons_succ])
  refine wpAnyX_pure (i := 7) (v := ?_) rfl (by kernel_rfl) (by kernel_rfl) (by kernel_rfl) (fun _ _ _ h => h) (Or.inl ⟨by rfl, ?_⟩) ?_
  rotate_left
  · (intro W _; go_simp; try with_reducible rfl)
  (try simp only [Act.put, List.getElem_toArray, List.getElem_cons_zero, List.getElem_cons_succ, List.setIfInBounds_toArray, List.set_cons_zero, List.set_cons_succ])
  refine wpAnyX_pure (i := 8) (v := ?_) rfl (by kernel_rfl) (by kernel_rfl) (by kernel_rfl) (fun _ _ _ h => h) (Or.inl ⟨by rfl, ?_⟩) ?_
  rotate_left
  · (intro W _; go_simp; try with_reducible rfl)
  (try simp only [Act.put, List.getElem_toArray, List.getElem_cons_zero, List.getElem_cons_succ, List.setIfInBounds_toArray, List.set_cons_zero, List.set_cons_succ])
  refine wpAnyX_pure (i := 9) (v := ?_) rfl (by kernel_rfl) (by kernel_rfl) (by kernel_rfl) (fun _ _ _ h => h) (Or.inl ⟨by rfl, ?_⟩) ?_
  rotate_left
  · (intro W _; go_simp; try with_reducible rfl)
  (try simp only [Act.put, List.getElem_toArray, List.getElem_cons_zero, List.getElem_cons_succ, List.setIfInBounds_toArray, List.set_cons_zero, List.set_cons_succ])
  refine wpAnyX_pure (i := 10) (v := ?_) rfl (by kernel_rfl) (by kernel_rfl) (by kernel_rfl) (fun _ _ _ h => h) (Or.inl ⟨by rfl, ?_⟩) ?_
  rotate_left
  · (intro W _; go_simp; try with_reducible rfl)
  (try simp only [Act.put, List.getElem_toArray, List.getElem_cons_zero, List.getElem_cons_succ, List.setIfInBounds_toArray, List.set_cons_zero, List.set_cons_succ])
  refine wpAnyX_pure (i := 11) (v := ?_) rfl (by kernel_rfl) (by kernel_rfl) (by kernel_rfl) (fun _ _ _ h => h) (Or.inl ⟨by rfl, ?_⟩) ?_
  rotate_left
  · (intro W _; go_simp; try with_reducible rfl)
  (try simp only [Act.put, List.getElem_toArray, List.getElem_cons_zero, List.getElem_cons_succ, List.setIfInBounds_toArray, List.set_cons_zero, List.set_cons_succ])
  refine wpAnyX_done (by kernel_rfl) ?_ _
  go_upto_region 14 with fail
  have hbf : Below w6.heap.size w6 w8.drew := below_drewN hbf 1
  refine wp_region_heldX (X := fun k => ([12] : List Nat).contains k) (S := fun W => Bx W w.heap.size #[.slice A n c, .slice B m d] 38 ∧ W.cell? ⟨gx, 0, none⟩ = some (.int .i64 i) ∧ W.cell? ⟨gx, 1, none⟩ = some (.slice (some ⟨g, 0, none⟩) qd N) ∧ W.cell? ⟨w.heap.size, 0, none⟩ = some (.slice A n c)) (by kernel_rfl) ?_
  generalize w8.drew = wkd at hbf ⊢
  refine wpAnyX_pure (i := 0) (v := ?_) rfl (by kernel_rfl) (by kernel_rfl) (by kernel_rfl) (fun _ _ _ h => h) (Or.inl ⟨by rfl, ?_⟩) ?_
  rotate_left
  · (intro W _; go_simp; try with_reducible rfl)
  (try simp only [Act.put, List.getElem_toArray, List.getElem_cons_zero, List.getElem_cons_succ, List.setIfInBounds_toArray, List.set_cons_zero, List.set_cons_succ])
  refine wpAnyX_pure (i := 1) (v := ?_) rfl (by kernel_rfl) (by kernel_rfl) (by kernel_rfl) (fun _ _ _ h => h) (Or.inl ⟨by rfl, ?_⟩) ?_
  rotate_left
  · (intro W _; go_simp; try with_reducible rfl)
  (try simp only [Act.put, List.getElem_toArray, List.getElem_cons_zero, List.getElem_cons_succ, List.setIfInBounds_toArray, List.set_cons_zero, List.set_cons_succ])
  refine wpAnyX_pure (i := 2) (v := ?_) rfl (by kernel_rfl) (by kernel_rfl) (by kernel_rfl) (fun _ _ _ h => h) (Or.inl ⟨by rfl, ?_⟩) ?_
  rotate_left
  · (intro W _; go_simp; try with_reducible rfl)
  (try simp only [Act.put, List.getElem_toArray, List.getElem_cons_zero, List.getElem_cons_succ, List.setIfInBounds_toArray, List.set_cons_zero, List.set_cons_succ])
  refine wpAnyX_pure (i := 3) (v := ?_) rfl (by kernel_rfl) (by kernel_rfl) (by kernel_rfl) (fun _ _ _ h => h) (Or.inl ⟨by rfl, ?_⟩) ?_
  rotate_left
  · (intro W _; go_simp; try with_reducible rfl)
  (try simp only [Act.put, List.getElem_toArray, List.getElem_cons_zero, List.getElem_cons_succ, List.setIfInBounds_toArray, List.set_cons_zero, List.set_cons_succ])
  refine wpAnyX_takeL (L := [12]) (i := 4) (v := ?_) rfl (by kernel_rfl) (by kernel_rfl) (by kernel_rfl) (by kernel_rfl) (fun _ _ _ h => h) (Or.inl ⟨by rfl, ?_⟩) (HS.out _ hbf) ?_
  rotate_left
  · (intro W hSW; (try dsimp only at hSW); obtain ⟨z0, z1, z2, z3⟩ := hSW; go_simp; try with_reducible rfl)
  (try simp only [Act.put, List.getElem_toArray, List.getElem_cons_zero, List.getElem_cons_succ, List.setIfInBounds_toArray, List.set_cons_zero, List.set_cons_succ])
  refine wpAnyX_pure (i := 5) (v := ?_) rfl (by kernel_rfl) (by kernel_rfl) (by kernel_rfl) (fun _ _ _ h => h) (Or.inl ⟨by rfl, ?_⟩) ?_
  rotate_left
  · (intro W _; go_simp; try with_reducible rfl)
  (try simp only [Act.put, List.getElem_toArray, List.getElem_cons_zero, List.getElem_cons_succ, List.setIfInBounds_toArray, List.set_cons_zero, List.set_cons_succ])
  refine wpAnyX_takeL (L := [12]) (i := 6) (v := .agg (#[.slice A n c, .slice B m d])) rfl (by kernel_rfl) (by kernel_rfl) (by kernel_rfl) (by kernel_rfl) (fun _ _ _ h => h) (Or.inl ⟨by rfl, fun W hSW => run_load_bx 38 _ rfl (w.heap.size) rfl 38 (#[.slice A n c, .slice B m d]) (0, 0) _ (hSW.1) Try.underlying38 rfl (by kernel_rfl)⟩) (HS.out _ hbf) ?_
  (try simp only [Act.put, List.getElem_toArray, List.getElem_cons_zero, List.getElem_cons_succ, List.setIfInBounds_toArray, List.set_cons_zero, List.set_cons_succ])
  refine wpAnyX_one (i := 7) rfl (by kernel_rfl) (fun K hK => ?_)
  go_simp
  go_at_call 105
  refine (pcopied16 A B n c m d xs ys _ (HIK.out _ hbf) (HJK.out _ hbf)).mono ?_
  rintro r w9 ⟨B1, B2, d1, d2, rfl, o1, o2, b9⟩
  have o1 := o1.lower (base' := base) (Nat.le_trans (Nat.le_trans hbz hzk) hbf.size)
  have o2 := o2.lower (base' := base) (Nat.le_trans (Nat.le_trans hbz hzk) hbf.size)
  have hbf := bt hbf b9
  clear b9
  refine hK.out _ _ (fun _ _ => HS.out _ hbf) ?_
  (try simp only [Act.put, List.getElem_toArray, List.getElem_cons_zero, List.getElem_cons_succ, List.setIfInBounds_toArray, List.set_cons_zero, List.set_cons_succ])
  refine wpAnyX_one (i := 8) rfl (by kernel_rfl) (fun K hK => ?_)
  go_simp
  have l9 := alloc_below w9 (.cells #[.slice B1 n d1, .slice B2 m d2] 38)
  have hv9 := bx_new w9 #[.slice B1 n d1, .slice B2 m d2] 38
  obtain ⟨wa, hwa⟩ : ∃ wa, wa = w9.alloc (.cells #[.slice B1 n d1, .slice B2 m d2] 38) := ⟨_, rfl⟩
  rw [← hwa] at l9 hv9 ⊢
  have o1 := o1.kept l9
  have o2 := o2.kept l9
  have hgv : w9.heap.size ≠ g := by have := hbf.size; omega
  have hbf := bt hbf l9
  clear l9 hwa
  refine hK.out _ _ (fun _ _ => HS.out _ hbf) ?_
  (try simp only [Act.put, List.getElem_toArray, List.getElem_cons_zero, List.getElem_cons_succ, List.setIfInBounds_toArray, List.set_cons_zero, List.set_cons_succ])
  refine wpAnyX_one (i := 9) rfl (by kernel_rfl) (fun K hK => ?_)
  by_cases hpe : p < qd
  · go_simp
    go_at_call 123
    refine (pins_shift g qd N p w9.heap.size cuk _ _ wa (HTK.out _ hbf).bx hv9 hgv (by omega) (by omega) hcapN hszk.out honek.out rfl rfl).mono ?_
    rintro r wb ⟨rfl, hwb⟩
    obtain ⟨cur', htr⟩ := TrO.shifted (w1 := wb) (HTK.out _ hbf) (p := p) (by rw [← HQD.out]; exact hpq) (by rw [← HQD.out]; omega) (xs := xs) (ys := ys) (B1 := B1) (B2 := B2) (d1 := d1) (d2 := d2) (by rw [HLX.out]; exact o1) (by rw [HLY.out]; exact o2) (by rw [HLX.out]; exact hxm) (by rw [HLY.out]; exact hym) (by rw [← HQD.out, HLX.out, HLY.out]; exact hwb)
    have hBb : Below z w wb := by rw [hwb]; exact below_cells (below_cells (below_drewN (BWK.out.trans (hbf.mono hzk)) 1) hz2 _ _) hz2 _ _
    have hMb : Bx wb gx #[.int .i64 i, .slice (some ⟨g, 0, none⟩) qd N] 24 := by rw [hwb]; exact bx_cells (bx_cells ((HXK.out _ hbf).drewN 1) HNE.out _ _) HNE.out _ _
    have hTb : Bx wb w.heap.size #[.slice A n c, .slice B m d] 38 := by rw [hwb]; exact bx_cells (bx_cells (((HS.out _ hbf).1).drewN 1) HGN.out _ _) HGN.out _ _
    have hSb : Bx wb w.heap.size #[.slice A n c, .slice B m d] 38 ∧ wb.cell? ⟨gx, 0, none⟩ = some (.int .i64 i) ∧ wb.cell? ⟨gx, 1, none⟩ = some (.slice (some ⟨g, 0, none⟩) qd N) ∧ wb.cell? ⟨w.heap.size, 0, none⟩ = some (.slice A n c) := ⟨hTb, by have := hMb.cell 0; simpa using this, by have := hMb.cell 1; simpa using this, by have := hTb.cell 0; simpa using this⟩
    refine hK.out _ _ (fun _ _ => hSb) ?_
    clear hSb hTb
    (try simp only [Act.put, List.getElem_toArray, List.getElem_cons_zero, List.getElem_cons_succ, List.setIfInBounds_toArray, List.set_cons_zero, List.set_cons_succ])
    have kx1 := hMb.cell 1
    clear hwb
    have kf1 := hMb.free 1
    simp at kx1
    refine wpAnyX_pure (i := 10) (v := ?_) rfl (by kernel_rfl) (by kernel_rfl) (by kernel_rfl) (fun _ _ _ h => h) (Or.inl ⟨by rfl, ?_⟩) ?_
    rotate_left
    · (intro W _; go_simp; try with_reducible rfl)
    (try simp only [Act.put, List.getElem_toArray, List.getElem_cons_zero, List.getElem_cons_succ, List.setIfInBounds_toArray, List.set_cons_zero, List.set_cons_succ])
    refine wpAnyX_pure (i := 11) (v := ?_) rfl (by kernel_rfl) (by kernel_rfl) (by kernel_rfl) (fun _ _ _ h => h) (Or.inl ⟨by rfl, ?_⟩) ?_
    rotate_left
    · (intro W _; go_simp; try with_reducible rfl)
    (try simp only [Act.put, List.getElem_toArray, List.getElem_cons_zero, List.getElem_cons_succ, List.setIfInBounds_toArray, List.set_cons_zero, List.set_cons_succ])
    refine wpAnyX_one (i := 12) rfl (by kernel_rfl) (fun K hK => ?_)
    go_simp
    refine hK.out _ _ (fun h => absurd h (by decide)) ?_
    (try simp only [Act.put, List.getElem_toArray, List.getElem_cons_zero, List.getElem_cons_succ, List.setIfInBounds_toArray, List.set_cons_zero, List.set_cons_succ])
    refine wpAnyX_done (by kernel_rfl) ?_ _
    have HRES := Lib.hid (TrO.boxed htr hMb (.slice (some ⟨g, 0, none⟩) (qd + 1) N))
    have HMF := Lib.hid (hMb.on1 (.slice (some ⟨g, 0, none⟩) (qd + 1) N))
    have HBF := Lib.hid (hBb.setCell (p := ⟨gx, 1, none⟩) hz1 (.slice (some ⟨g, 0, none⟩) (qd + 1) N))
    clear hbf o1 o2 hv9 htr hMb hBb
    go_wp2_with fail
    go_ret
    exact ⟨0, _, rfl, ⟨best, by rw [← HKN.out]; exact HG.out, .inr (.inr (.inr (.inr ⟨HPR.out, HAG.out, HLT.out, by rw [← HD.out, ← HQD.out]; omega, rfl, p, by rw [← HD.out, ← HQD.out]; exact hpq, by rw [← HD.out]; exact HLO.out, by rw [← HD.out, ← HQD.out]; exact HHI.out, rfl⟩)))⟩, HBF.out, fun _ => ⟨cur', by rw [← HD.out, ins_len (by rw [← HQD.out]; exact hpq), ← HQD.out]; exact HMF.out, by rw [← HD.out]; exact HRES.out⟩⟩
  obtain rfl : qd = p := by omega
  go_simp
  go_at_call 123
  refine (pins_end g qd N w9.heap.size cuk _ _ wa (HTK.out _ hbf).bx hv9 (by omega) hcapN hszk.out rfl rfl).mono ?_
  rintro r wb ⟨rfl, hwb⟩
  obtain ⟨cur', htr⟩ := TrO.pushed (w1 := wb) (HTK.out _ hbf) (by rw [← HQD.out]; omega) (xs := xs) (ys := ys) (B1 := B1) (B2 := B2) (d1 := d1) (d2 := d2) (by rw [HLX.out]; exact o1) (by rw [HLY.out]; exact o2) (by rw [HLX.out]; exact hxm) (by rw [HLY.out]; exact hym) (by rw [← HQD.out, HLX.out, HLY.out]; exact hwb)
  have htr : TrO wb base g N cur' ((dd).take qd ++ (xs, ys) :: (dd).drop qd) := by rw [List.take_of_length_le (by rw [← HQD.out]; omega), List.drop_eq_nil_of_le (by rw [← HQD.out]; omega)]; exact htr
  have hBb : Below z w wb := by rw [hwb]; exact below_setRow (BWK.out.trans (hbf.mono hzk)) hz2 _
  have hMb : Bx wb gx #[.int .i64 i, .slice (some ⟨g, 0, none⟩) qd N] 24 := by rw [hwb]; exact (HXK.out _ hbf).rowOther HNE.out _
  have hTb : Bx wb w.heap.size #[.slice A n c, .slice B m d] 38 := by rw [hwb]; exact ((HS.out _ hbf).1).rowOther HGN.out _
  have hSb : Bx wb w.heap.size #[.slice A n c, .slice B m d] 38 ∧ wb.cell? ⟨gx, 0, none⟩ = some (.int .i64 i) ∧ wb.cell? ⟨gx, 1, none⟩ = some (.slice (some ⟨g, 0, none⟩) qd N) ∧ wb.cell? ⟨w.heap.size, 0, none⟩ = some (.slice A n c) := ⟨hTb, by have := hMb.cell 0; simpa using this, by have := hMb.cell 1; simpa using this, by have := hTb.cell 0; simpa using this⟩
  refine hK.out _ _ (fun _ _ => hSb) ?_
  clear hSb hTb
  (try simp only [Act.put, List.getElem_toArray, List.getElem_cons_zero, List.getElem_cons_succ, List.setIfInBounds_toArray, List.set_cons_zero, List.set_cons_succ])
  have kx1 := hMb.cell 1
  clear hwb
  have kf1 := hMb.free 1
  simp at kx1
  refine wpAnyX_pure (i := 10) (v := ?_) rfl (by kernel_rfl) (by kernel_rfl) (by kernel_rfl) (fun _ _ _ h => h) (Or.inl ⟨by rfl, ?_⟩) ?_
  rotate_left
  · (intro W _; go_simp; try with_reducible rfl)
  (try simp only [Act.put, List.getElem_toArray, List.getElem_cons_zero, List.getElem_cons_succ, List.setIfInBounds_toArray, List.set_cons_zero, List.set_cons_succ])
  refine wpAnyX_pure (i := 11) (v := ?_) rfl (by kernel_rfl) (by kernel_rfl) (by kernel_rfl) (fun _ _ _ h => h) (Or.inl ⟨by rfl, ?_⟩) ?_
  rotate_left
  · (intro W _; go_simp; try with_reducible rfl)
  (try simp only [Act.put, List.getElem_toArray, List.getElem_cons_zero, List.getElem_cons_succ, List.setIfInBounds_toArray, List.set_cons_zero, List.set_cons_succ])
  refine wpAnyX_one (i := 12) rfl (by kernel_rfl) (fun K hK => ?_)
  go_simp
  refine hK.out _ _ (fun h => absurd h (by decide)) ?_
  (try simp only [Act.put, List.getElem_toArray, List.getElem_cons_zero, List.getElem_cons_succ, List.setIfInBounds_toArray, List.set_cons_zero, List.set_cons_succ])
  refine wpAnyX_done (by kernel_rfl) ?_ _
  have HRES := Lib.hid (TrO.boxed htr hMb (.slice (some ⟨g, 0, none⟩) (qd + 1) N))
  have HMF := Lib.hid (hMb.on1 (.slice (some ⟨g, 0, none⟩) (qd + 1) N))
  have HBF := Lib.hid (hBb.setCell (p := ⟨gx, 1, none⟩) hz1 (.slice (some ⟨g, 0, none⟩) (qd + 1) N))
  clear hbf o1 o2 hv9 htr hMb hBb
  go_wp2_with fail
  go_ret
  exact ⟨0, _, rfl, ⟨best, by rw [← HKN.out]; exact HG.out, .inr (.inr (.inr (.inr ⟨HPR.out, HAG.out, HLT.out, by rw [← HD.out, ← HQD.out]; omega, rfl, qd, by rw [← HD.out, ← HQD.out]; exact hpq, by rw [← HD.out]; exact HLO.out, by rw [← HD.out, ← HQD.out]; exact HHI.out, rfl⟩)))⟩, HBF.out, fun _ => ⟨cur', by rw [← HD.out, ins_len (by rw [← HQD.out]; exact hpq), ← HQD.out]; exact HMF.out, by rw [← HD.out]; exact HRES.out⟩⟩
end Go.Proofs.Ytkgdgnmobahhfaa
end
