/- Lemmas of the proofs of this seat, of the parts Rext, Valr, Racc, Rpth, Tkn, Rfsh, Rtou, Cvap, Cvlb. Conditions: none. -/
import Derived.Test.YtedcdpmflcegbaaQab
import Derived.Test.YtedcdpmflcegbaaQac
import Derived.Test.YtedcdpmflcegbaaQad
section
/- Extended of the reference: a word with one more symbol. -/
namespace Go.Proofs.Ytedcdpmflcegbaa
open Go.RowKit

set_option maxRecDepth 100000 in
theorem rext (A : Option Addr) (n c : Nat) (us : List Int) (x : Int) (w : World) (h : Ints w A n us) (hn : us.length ≤ 1048576) :
    Calls Try.prog 34 #[.slice A n c, .int .i64 x] w fun e w' => ∃ A' c', e = .returned (.slice A' (us.length + 1) c') ∧ Owned w' w.heap.size (.slice A' (us.length + 1) c') (us ++ [x]) ∧ Below w.heap.size w w' := by
  obtain ⟨v1, w1, r1, o1, _, b1⟩ := run_append_ints w w.heap.size (.slice none 0 0) [] us A n c (World.ownsRow_nil _ _ _ _) h (Nat.le_refl _) (by rw [List.nil_append]; omega)
  rw [List.nil_append] at o1
  obtain ⟨A1, c1, rfl⟩ := o1.form
  obtain ⟨A2, c2, w2, r2, o2, b2, _⟩ := run_append_one o1 x b1.size (by omega)
  have O2 := Lib.hid o2
  have b3 := b1.trans b2
  clear o1 o2 b1 b2 hn
  go_enter Try.func34, Try.ntmps34
  go_wp2_with (at_builtin; first | (refine Lib.wpList_append_run _ rfl _ _ _ _ rfl _ _ rfl rfl _ _ r1 ?_; clear r1) | (refine Lib.wpList_append_run _ rfl _ _ _ _ rfl _ _ rfl rfl _ _ r2 ?_))
  go_wp2
  go_ret
  exact ⟨A2, c2, rfl, O2.out, b3⟩
end Go.Proofs.Ytedcdpmflcegbaa
end

section
/- Valid of a machine by the reference. -/
namespace Go.Proofs.Ytedcdpmflcegbaa
open Go.RowKit

set_option maxHeartbeats 2000000 in
set_option maxRecDepth 100000 in
theorem rvalid (i st : Int) (A B : Option Addr) (n c m d : Nat) (nx ot : List (List Int)) (w : World) (hx : Lists w A n nx) (ho : Lists w B m ot) :
    Calls Try.prog 25 #[.agg #[.int .i64 i, .int .i64 st, .slice A n c, .slice B m d]] w fun e w' => e = .returned (.int .i64 (vld i st nx ot)) ∧ Below w.heap.size w w' := by
  have L1 := Lib.hid hx.1
  have L2 := Lib.hid ho.1
  have hn := hx.2.1
  have hm := ho.2.1
  have hb0 := alloc_below w (.cells #[.int .i64 i, .int .i64 st, .slice A n c, .slice B m d] 24)
  have hsz0 : (w.alloc (.cells #[.int .i64 i, .int .i64 st, .slice A n c, .slice B m d] 24)).heap.size = w.heap.size + 1 := by simp
  have HZ := Lib.hid hsz0
  clear hsz0
  by_cases hi : 1 ≤ i ∧ i ≤ 64
  · have HI := Lib.hid hi
    obtain ⟨hi1, hi2⟩ := hi
    have i1 : decide (i < 1) = false := by simpa using hi1
    have i2 : decide (64 < i) = false := by simpa using hi2
    by_cases h0 : n = 0
    · have hfin := Lib.hid (vld_empty (st := st) (ot := ot) HI.out (by rw [L1.out]; exact h0))
      subst h0
      go_enter Try.func25, Try.ntmps25
      go_wp2
      go_ret
      exact ⟨ret_int hfin.out.symm, hb0⟩
    · have z0 : ((n : Int) == 0) = false := by simp; omega
      by_cases h1 : 128 < n
      · have hfin := Lib.hid (vld_many (st := st) (ot := ot) HI.out (by rw [L1.out]; exact h1))
        clear h0
        go_enter Try.func25, Try.ntmps25
        go_wp2
        go_ret
        exact ⟨ret_int hfin.out.symm, hb0⟩
      · have z1 : decide ((128 : Int) < (n : Int)) = false := by simp; omega
        by_cases h2 : 0 ≤ st ∧ st < n
        · have H2 := Lib.hid h2
          have s1 : decide (st < 0) = false := by simpa using h2.1
          have s2 : decide ((n : Int) ≤ st) = false := by simpa using h2.2
          by_cases h3 : m = n
          · subst h3
            have z3 : ((m : Int) != (m : Int)) = false := by simp
            have hrows := Lib.hid (vld_rows (i := i) (st := st) (nx := nx) (ot := ot) HI.out (by rw [L1.out]; exact h0) (by rw [L1.out]; exact h1) (by rw [L1.out]; exact H2.out) (by rw [L1.out, L2.out]))
            clear h0 h2
            go_enter Try.func25, Try.ntmps25
            go_wp2
            go_loopw [3] (fun x wr => ∃ j : Nat, j ≤ m ∧ x = .int .i64 j ∧ (∀ t, t < j → rowAt i nx ot t = 0) ∧ Below (w.heap.size + 1) (w.alloc (.cells #[.int .i64 i, .int .i64 st, .slice A m c, .slice B m d] 24)) wr) (fun x _ => m - (intOf x).toNat)
            case atStart => exact ⟨0, Nat.zero_le _, rfl, fun t h => absurd h (by omega), Below.refl _ _⟩
            case round =>
              obtain ⟨j, hj, rfl, hok, hbr⟩ := hrel
              have hbw := hb0.trans (hbr.mono (Nat.le_succ _))
              have hsz1 : w.heap.size + 1 ≤ wr.heap.size := by have := hbr.size; simpa using this
              have HK := Lib.hid hok
              clear hok
              obtain ⟨k0, k1, k2, k3⟩ := box4 hbr
              by_cases hlt : j < m
              · have HV := Lib.hid (show rowAt i nx ot j = rowE i m (nx.getD j []) (ot.getD j []) by unfold rowAt; rw [L1.out])
                by_cases he : rowE i m (nx.getD j []) (ot.getD j []) = 0
                · have hnx := Lib.hid (show ∀ t, t < j + 1 → rowAt i nx ot t = 0 from fun t ht => by
                    by_cases e : t = j
                    · subst e; rw [HV.out]; exact he
                    · exact HK.out t (by omega))
                  have HE := Lib.hid he
                  clear he
                  go_wp2_with fail
                  refine (rrow _ _ _ _ _ _ _ _ _ _ _ _ (hx.below hbw) (ho.below hbw) hlt hlt).mono ?_
                  rintro e w2 ⟨rfl, b2⟩
                  have b3 := hbr.trans (b2.mono hsz1)
                  rw [HE.out]
                  obtain ⟨k0, k1, k2, k3⟩ := box4 b3
                  go_wp2
                  go_roundw
                  case rel => exact ⟨j + 1, by omega, by go_num, hnx.out, b3⟩
                  case measure => simp [intOf]; omega
                · have hfin := Lib.hid (hrows.out.trans (fstE_bad HK.out (by rw [HV.out]; exact he) (by rw [L1.out]; exact hlt)))
                  have he2 : (rowE i m (nx.getD j []) (ot.getD j []) != 0) = true := by simpa using he
                  go_wp2_with fail
                  refine (rrow _ _ _ _ _ _ _ _ _ _ _ _ (hx.below hbw) (ho.below hbw) hlt hlt).mono ?_
                  rintro e w2 ⟨rfl, b2⟩
                  have b3 := hbr.trans (b2.mono hsz1)
                  have HF := Lib.hid (hfin.out.trans HV.out)
                  clear hfin HV
                  generalize rowE i m (nx.getD j []) (ot.getD j []) = E at he2 he HF
                  clear he
                  go_wp2
                  go_ret
                  exact ⟨ret_int HF.out.symm, hb0.trans (b3.mono (Nat.le_succ _))⟩
              · obtain rfl : j = m := by omega
                have hfin := Lib.hid (hrows.out.trans (fstE_ok (by rw [L1.out]; exact HK.out)))
                go_wp2
                go_ret
                exact ⟨ret_int hfin.out.symm, hbw⟩
          · have z3 : ((m : Int) != (n : Int)) = true := by simp; omega
            have hfin := Lib.hid (vld_out (i := i) (st := st) (nx := nx) (ot := ot) HI.out (by rw [L1.out]; exact h0) (by rw [L1.out]; exact h1) (by rw [L1.out]; exact H2.out) (by rw [L1.out, L2.out]; exact h3))
            clear h0 h3
            go_enter Try.func25, Try.ntmps25
            go_wp2
            go_ret
            exact ⟨ret_int hfin.out.symm, hb0⟩
        · have hfin := Lib.hid (vld_start (i := i) (st := st) (nx := nx) (ot := ot) HI.out (by rw [L1.out]; exact h0) (by rw [L1.out]; exact h1) (by rw [L1.out]; exact h2))
          by_cases h3 : 0 ≤ st
          · have s1 : decide (st < 0) = false := by simpa using h3
            have s2 : decide ((n : Int) ≤ st) = true := by simp; omega
            clear h0 h2
            go_enter Try.func25, Try.ntmps25
            go_wp2
            go_ret
            exact ⟨ret_int hfin.out.symm, hb0⟩
          · have s1 : decide (st < 0) = true := by simpa using h3
            clear h0 h2
            go_enter Try.func25, Try.ntmps25
            go_wp2
            go_ret
            exact ⟨ret_int hfin.out.symm, hb0⟩
  · have hfin := Lib.hid (vld_in (st := st) (nx := nx) (ot := ot) hi)
    by_cases hi1 : 1 ≤ i
    · have hi2 : 64 < i := by omega
      have t1 : ¬ i < 1 := by omega
      clear hi
      go_enter Try.func25, Try.ntmps25
      go_wp2
      go_ret
      exact ⟨ret_int hfin.out.symm, hb0⟩
    · have t1 : i < 1 := by omega
      clear hi hi1
      go_enter Try.func25, Try.ntmps25
      go_wp2
      go_ret
      exact ⟨ret_int hfin.out.symm, hb0⟩
end Go.Proofs.Ytedcdpmflcegbaa
end

section
/- Access of the reference. -/
namespace Go.Proofs.Ytedcdpmflcegbaa
open Go.RowKit

set_option maxHeartbeats 1000000 in
theorem rhas10 (A : Option Addr) (n c : Nat) (xs : List Int) (v : Int) (b : Bool) (w : World) (h : Ints w A n xs) (hb : b = decide (v ∈ xs)) :
    Calls Try.prog 33 #[.slice A n c, .int .i64 v] w fun e w' => e = .returned (.bool b) ∧ ∃ q, w' = w.drewN q := by
  have L := Lib.hid h.1
  have hn := h.2.1
  have HB := Lib.hid hb
  clear hb
  go_enter Try.func33, Try.ntmps33
  go_wp2
  go_loopw [5] (fun v5 wr => ∃ j : Nat, j ≤ n ∧ v5 = .int .i64 j ∧ (∀ m, m < j → ¬ xs.getD m 0 = v) ∧ ∃ q, wr = w.drewN q) (fun v5 _ => n - (intOf v5).toNat)
  case atStart => exact ⟨0, Nat.zero_le _, rfl, fun m h => absurd h (by omega), 0, rfl⟩
  case round =>
    obtain ⟨j, hj, rfl, hne, hw⟩ := hrel
    have h' : Ints wr A n xs := by obtain ⟨q, rfl⟩ := hw; exact h
    have HW := Lib.hid hw
    have HN := Lib.hid hne
    clear hne hw
    by_cases hlt : j < n
    · obtain ⟨b', off, rfl, _, hcell⟩ := h'.at_ hlt
      by_cases hx : xs.getD j 0 = v
      · have hfin := Lib.hid (show b = true from HB.out.trans (decide_eq_true (by
          rw [← hx, List.getD_eq_getElem?_getD, List.getElem?_eq_getElem (by rw [L.out]; exact hlt)]
          exact List.getElem_mem _)))
        have ht : (xs.getD j 0 == v) = true := by rw [hx]; simp
        generalize xs.getD j 0 = y at hcell ht
        clear hx
        go_wp2
        go_ret
        exact ⟨ret_bool hfin.out.symm, HW.out⟩
      · have HN2 := Lib.hid (show ∀ m, m < j + 1 → ¬ xs.getD m 0 = v from fun m hm => by
          by_cases h9 : m = j
          · subst h9; exact hx
          · exact HN.out m (by omega))
        have ht : (xs.getD j 0 == v) = false := by simpa using hx
        generalize xs.getD j 0 = y at hcell ht
        clear hx
        go_wp2
        go_roundw
        case rel => exact ⟨j + 1, by omega, by go_num, HN2.out, HW.out⟩
        case measure => simp [intOf]; omega
    · obtain rfl : j = n := by omega
      have hfin := Lib.hid (show b = false from HB.out.trans (decide_eq_false (by
        intro hm
        obtain ⟨k, hk, e⟩ := List.mem_iff_getElem.1 hm
        refine HN.out k (by rw [L.out] at hk; exact hk) ?_
        rw [List.getD_eq_getElem?_getD, List.getElem?_eq_getElem hk]; exact e)))
      go_wp2
      go_ret
      exact ⟨ret_bool hfin.out.symm, HW.out⟩

theorem mem_psL {n s : Nat} {E : List Ent} (h : Ens n 1 s 0 E) (p : Nat) : ((p : Int) ∈ psL E) ↔ hasE E p 0 := by
  unfold psL hasE
  rw [List.mem_map, List.mem_map]
  constructor
  · rintro ⟨e, he, e1⟩
    exact ⟨e, he, Prod.ext (by show e.p = p; omega) (by have := (h.lt e he).2; show e.q = 0; omega)⟩
  · rintro ⟨e, he, e1⟩
    exact ⟨e, he, by rw [show e.p = p from congrArg Prod.fst e1]⟩
theorem psL_snoc (E : List Ent) (e : Ent) : psL (E ++ [e]) = psL E ++ [(e.p : Int)] := by simp [psL]
theorem wsL_snoc (E : List Ent) (e : Ent) : wsL (E ++ [e]) = wsL E ++ [e.w] := by simp [wsL]
theorem psL_at' {E : List Ent} {k : Nat} (hk : k < E.length) : (psL E).getD k 0 = ((E.getD k Ent.zero).p : Int) := by
  rw [List.getD_eq_getElem?_getD, psL, List.getElem?_map, List.getElem?_eq_getElem hk]
  show ((E[k]).p : Int) = _
  rw [getDE_get hk]
theorem wsL_at' {E : List Ent} {k : Nat} (hk : k < E.length) : (wsL E).getD k [] = (E.getD k Ent.zero).w := by
  rw [List.getD_eq_getElem?_getD, wsL, List.getElem?_map, List.getElem?_eq_getElem hk]
  show (E[k]).w = _
  rw [getDE_get hk]
theorem wsL_le {n s : Nat} {E : List Ent} (h : Ens n 1 s 0 E) : ∀ x, x ∈ wsL E → x.length ≤ E.length := fun x hx => by
  obtain ⟨k, hk, e⟩ := List.mem_iff_getElem.1 hx
  rw [wsL_len] at hk
  have h1 := wsL_at' hk
  rw [List.getD_eq_getElem?_getD, List.getElem?_eq_getElem (by rw [wsL_len]; exact hk)] at h1
  have h2 := h.wl k hk
  have : x = (E.getD k Ent.zero).w := by rw [← e]; exact h1
  rw [this]
  omega
/-- What the search of the reference keeps in memory. -/
structure Rac (w1 W : World) (v u : Value) (E : List Ent) : Prop where
  ps : Owned W w1.heap.size v (psL E)
  ws : OwnedX W w1.heap.size v u (wsL E)
  bel : Below w1.heap.size w1 W
theorem Rac.on {w1 W W' : World} {v u : Value} {E : List Ent} (h : Rac w1 W v u E) (hb : Below W.heap.size W W') : Rac w1 W' v u E := ⟨h.ps.kept hb, h.ws.kept hb, h.bel.trans (hb.mono h.bel.size)⟩

set_option maxHeartbeats 4000000 in
set_option maxRecDepth 100000 in
theorem racc_ok (i st n : Nat) (A B : Option Addr) (c d : Nat) (nx ot : List (List Int)) (w : World) (hx : Lists w A n nx) (ho : Lists w B n ot) (hM : Mok i st n nx ot) :
    Calls Try.prog 12 #[.agg #[.int .i64 i, .int .i64 st, .slice A n c, .slice B n d]] w fun e w' => ∃ A1 c1 A2 c2, e = .returned (.tuple #[.slice A1 (exs nx i n st).length c1, .slice A2 (exs nx i n st).length c2, .int .i64 0]) ∧
      Owned w' w.heap.size (.slice A1 (exs nx i n st).length c1) (psL (exs nx i n st)) ∧ OwnedL w' w.heap.size (.slice A2 (exs nx i n st).length c2) (wsL (exs nx i n st)) ∧ Below w.heap.size w w' := by
  have hb0 := alloc_below w (.cells #[.int .i64 i, .int .i64 st, .slice A n c, .slice B n d] 24)
  have hB := mealy_box w (.int .i64 i) (.int .i64 st) (.slice A n c) (.slice B n d)
  have hv := hM.vld
  have hst := hM.st
  have hn2 := hM.n2
  have hi64 := hM.i2
  obtain ⟨R, hR⟩ : ∃ R, R = exs nx i n st := ⟨_, rfl⟩
  rw [← hR]
  have HR := Lib.hid (show xpl nx i n [⟨st, 0, 0, 0, []⟩] 0 = R from hR.symm)
  clear hR
  go_enter Try.func12, Try.ntmps12
  go_wp2_with fail
  refine (rvalid _ _ _ _ _ _ _ _ _ _ _ (hx.below hb0) (ho.below hb0)).mono ?_
  rintro e w1 ⟨rfl, a1⟩
  have hB1 := hB.kept a1 (by simp)
  have b1 := bt hb0 a1
  have hgt : w.heap.size < w1.heap.size := by have := a1.size; simp at this; omega
  obtain ⟨k0, k1, k2, k3, _⟩ := hB1.cells
  have HBX := Lib.hid (fun (W : World) (h : Below w1.heap.size w1 W) => hB1.kept h hgt)
  rw [hv]
  have HB1 := Lib.hid b1
  clear hB hb0 a1 hB1 b1 hv
  have hF0 : Rac w1 (((w1.alloc (.cells #[.int .i64 (st : Int)] 3)).alloc (.cells #[] 3)).alloc (.cells #[.slice (some ⟨w1.heap.size + 1, 0, none⟩) 0 0] 27)) (.slice (some ⟨w1.heap.size, 0, none⟩) 1 1) (.slice (some ⟨w1.heap.size + 1 + 1, 0, none⟩) 1 1) [⟨st, 0, 0, 0, []⟩] := by
    have o1 := Owned.literal w1 w1.heap.size [(st : Int)] #[.int .i64 (st : Int)] 1 (Nat.le_refl _) rfl rfl (by simp)
    have bb1 := alloc_below w1 (.cells #[.int .i64 (st : Int)] 3)
    have zz1 : (w1.alloc (.cells #[.int .i64 (st : Int)] 3)).heap.size = w1.heap.size + 1 := by simp
    generalize w1.alloc (.cells #[.int .i64 (st : Int)] 3) = W1 at o1 bb1 zz1 ⊢
    have o2 := Owned.literal W1 w1.heap.size [] #[] 0 (by omega) rfl rfl (by simp)
    have bb2 := alloc_below W1 (.cells #[] 3)
    have zz2 : (W1.alloc (.cells #[] 3)).heap.size = w1.heap.size + 1 + 1 := by simp; omega
    rw [zz1] at o2
    generalize W1.alloc (.cells #[] 3) = W2 at o2 bb2 zz2 ⊢
    have o3 := OwnedX.one W2 w1.heap.size (.slice (some ⟨w1.heap.size, 0, none⟩) 1 1) (some ⟨w1.heap.size + 1, 0, none⟩) 0 0 [] o2 (fun g h1 h2 => by
      simp [Value.ownBlock] at h1 h2
      omega) (by omega)
    rw [zz2] at o3
    have bb3 := alloc_below W2 (.cells #[.slice (some ⟨w1.heap.size + 1, 0, none⟩) 0 0] 27)
    exact ⟨(o1.kept bb2).kept bb3, o3, bt bb1 (bt bb2 bb3)⟩
  have HF0 := Lib.hid hF0
  clear hF0
  go_wp2
  generalize ((w1.alloc (.cells #[.int .i64 (st : Int)] 3)).alloc (.cells #[] 3)).alloc (.cells #[.slice (some ⟨w1.heap.size + 1, 0, none⟩) 0 0] 27) = w2 at HF0 ⊢
  go_loopw [6, 7, 8] (fun v6 v7 v8 wr => ∃ (j : Nat) (E : List Ent) (A6 A7 : Option Addr) (c6 c7 : Nat), v8 = .int .i64 j ∧ v6 = .slice A6 E.length c6 ∧ v7 = .slice A7 E.length c7 ∧ j ≤ E.length ∧ Ens n 1 st 0 E ∧ xpl nx i n E j = R ∧ Rac w1 wr (.slice A6 E.length c6) (.slice A7 E.length c7) E) (fun _ _ v8 _ => n - (intOf v8).toNat)
  case atStart => exact ⟨0, [⟨st, 0, 0, 0, []⟩], _, _, 1, 1, rfl, rfl, rfl, Nat.zero_le _, Ens.one hst (by decide), HR.out, HF0.out⟩
  case round =>
    obtain ⟨j, E, A6, A7, c6, c7, rfl, rfl, rfl, hjl, hE, hX, hF⟩ := hrel
    have HE := Lib.hid hE
    have HX := Lib.hid hX
    have HF := Lib.hid hF
    have hlen := hE.len
    by_cases hlt : j < E.length
    · obtain ⟨e, he⟩ : ∃ e, e = E.getD j Ent.zero := ⟨_, rfl⟩
      have hp := (hE.lt _ (getDE_mem hlt)).1
      rw [← he] at hp
      have HI := Lib.hid (show ∀ x, x ≤ i → Ens n 1 st 0 (addS nx (oneN i) j e E x) by rw [he]; exact addS_ens hM (one_ok hM) hE hlt)
      have HEE := Lib.hid he
      clear hE hX hF he
      go_wp2
      go_loopw [6, 7, 9] (fun v6 v7 v9 wq => ∃ (x : Nat) (A8 A9 : Option Addr) (c8 c9 : Nat), x ≤ i ∧ v9 = .int .i64 x ∧ v6 = .slice A8 (addS nx (oneN i) j e E x).length c8 ∧ v7 = .slice A9 (addS nx (oneN i) j e E x).length c9 ∧ Rac w1 wq (.slice A8 (addS nx (oneN i) j e E x).length c8) (.slice A9 (addS nx (oneN i) j e E x).length c9) (addS nx (oneN i) j e E x)) (fun _ _ v9 _ => i - (intOf v9).toNat)
      case atStart => exact ⟨0, A6, A7, c6, c7, Nat.zero_le _, rfl, rfl, rfl, HF.out⟩
      case round =>
        obtain ⟨x, A8, A9, c8, c9, hxl, rfl, rfl, rfl, hF2⟩ := hrel
        have hE2 := HI.out x hxl
        have hlen2 := hE2.len
        obtain ⟨T, hT⟩ := addS_pre (nx1 := nx) (nx2 := oneN i) j e E x
        have hj2 : j < (addS nx (oneN i) j e E x).length := by rw [hT, List.length_append]; omega
        have he2 : (addS nx (oneN i) j e E x).getD j Ent.zero = e := by rw [hT, getDE_pre hlt]; exact HEE.out.symm
        have HE2 := Lib.hid hE2
        have Hj2 := Lib.hid hj2
        have He2 := Lib.hid he2
        have HF2 := Lib.hid hF2
        obtain ⟨k0, k1, k2, k3, _⟩ := (HBX.out wr hF2.bel).cells
        by_cases hxi : x < i
        · have hbw : Below w.heap.size w wr := HB1.out.trans (hF2.bel.mono HB1.out.size)
          obtain ⟨g6, o6, e6, _, x6⟩ := (hF2.ps.ints (by rw [psL_len]; omega)).at_ hj2
          rw [psL_at' hj2, he2] at x6
          subst e6
          obtain ⟨gA, oA, A1, nA, cA, eA, hgA, hdA, hrA⟩ := hx.at_ hp
          have m1 := hrA.1
          have w1' := (hM.row e.p hp).1
          obtain rfl : i = nA := by omega
          subst eA
          have hdA := (hbw.cell (p := ⟨gA, oA + e.p, none⟩) hgA).trans hdA
          obtain ⟨hA2, iA2, eA2, lA, vA⟩ := hrA.at_ hxi
          subst eA2
          have rA : (nx.getD e.p []).getD x 0 = ((nN nx e.p x : Nat) : Int) := hM.nN_eq hp hxi
          rw [rA] at vA
          have vA := (hbw.cell (p := ⟨hA2, iA2 + x, none⟩) lA).trans vA
          have hpl := hM.nN_lt hp hxi
          obtain ⟨e', hE'⟩ : ∃ e', e' = nxE nx (oneN i) j e x := ⟨_, rfl⟩
          have f1 : nN nx e.p x = e'.p := by rw [hE']; rfl
          have f2 : e'.q = 0 := by rw [hE']; exact nxE_q hxi
          have F5 := Lib.hid (show e'.w = e.w ++ [(x : Int)] by rw [hE']; rfl)
          have HST := Lib.hid (show addS nx (oneN i) j e E (x + 1) = addE (addS nx (oneN i) j e E x) e' by rw [hE']; rfl)
          rw [f1] at vA hpl
          have F2 := Lib.hid f2
          have HBW := Lib.hid hbw
          clear rA hE' f1 f2 hF2 he2 hT hE2 hbw m1 w1' hrA
          go_wp2
          go_quiet (fail)
          have hF3 := HF2.out.on (below_drewN (Below.refl wr.heap.size wr) nq)
          clear k0 k1 k2 k3 hdA vA x6
          generalize wr.drewN nq = w3 at hF3 ⊢
          have HF3 := Lib.hid hF3
          have hps := hF3.ps.ints (by rw [psL_len]; omega)
          clear hF3
          by_cases hh : hasE (addS nx (oneN i) j e E x) e'.p e'.q
          · have HAE := Lib.hid (addE_in hh)
            have hh0 := hh
            rw [F2.out] at hh0
            have hbt := (decide_eq_true ((mem_psL HE2.out e'.p).2 hh0)).symm
            clear hh hh0
            go_wp2_with fail
            refine (rhas10 _ _ _ _ _ true _ hps hbt).mono ?_
            rintro r w4 ⟨rfl, q, rfl⟩
            have HF4 := Lib.hid (HF3.out.on (below_drewN (Below.refl w3.heap.size w3) q))
            clear hps hbt
            go_wp2
            go_roundw
            case rel => exact ⟨x + 1, _, A9, c8, c9, by omega, by go_num, by rw [HST.out, HAE.out], by rw [HST.out, HAE.out], by rw [HST.out, HAE.out]; exact HF4.out⟩
            case measure => simp [intOf]; omega
          · have HAE := Lib.hid (addE_out hh)
            have hh0 := hh
            rw [F2.out] at hh0
            have hbt := (decide_eq_false (fun h9 => hh0 ((mem_psL HE2.out e'.p).1 h9))).symm
            clear hh hh0
            go_wp2_with fail
            refine (rhas10 _ _ _ _ _ false _ hps hbt).mono ?_
            rintro r w4 ⟨rfl, q, rfl⟩
            have hF4 := HF3.out.on (below_drewN (Below.refl w3.heap.size w3) q)
            clear hps hbt
            generalize w3.drewN q = w4 at hF4 ⊢
            have hz4 := hF4.bel.size
            obtain ⟨A10, c10, w5, hr5, hO5, hb5, hk5, hkb5, hm5⟩ := run_append_oneB hF4.ps (e'.p : Int) hz4 (by rw [psL_len]; omega)
            rw [psL_len] at hr5 hO5
            have hX5 := hF4.ws.grow hkb5 (hk5 _ (by decide)) (by rw [psL_len] at hm5; exact hm5)
            have HF5 := Lib.hid (show Below w1.heap.size w1 w5 from hF4.bel.trans hb5)
            have HO5 := Lib.hid hO5
            have HX5 := Lib.hid hX5
            obtain ⟨g9, o9, Aw, nw, cw, e9, _, x9, hIw⟩ := (hX5.lists (by rw [wsL_len]; omega) (fun x h9 => by have := wsL_le HE2.out x h9; omega)).at_ hj2
            subst e9
            rw [wsL_at' hj2, He2.out] at hIw
            have hel := HE2.out.wl j hj2
            rw [He2.out] at hel
            obtain rfl : nw = e.w.length := hIw.1.symm
            have HEXT := Lib.hid (rext Aw e.w.length cw e.w (x : Int) w5 hIw (by omega))
            have hlw5 : ∀ k, (Value.slice A10 ((addS nx (oneN i) j e E x).length + 1) c10).ownBlock = some k → k < w5.heap.size := fun k hk => (hO5.lt k hk).2
            have HLW := Lib.hid hlw5
            clear hF4 hO5 hX5 hb5 hk5 hkb5 hm5 hIw hlw5
            go_wp2_with (at_builtin; refine Lib.wpList_append_run _ rfl _ _ _ _ rfl _ _ rfl rfl _ _ hr5 ?_)
            clear hr5
            refine HEXT.out.mono ?_
            rintro r w6 ⟨A11, c11, rfl, hO6, hb6⟩
            rw [← F5.out] at hO6
            have hX6 := HX5.out.kept hb6
            have hz5 := HF5.out.size
            have hz6 := hb6.size
            obtain ⟨A12, c12, w7, hr7, hX7, hb7, hk7⟩ := run_append_listX hX6 (hO6.lower hz5) (fun k h1 h2 => by
              have := HLW.out k h1
              have := (hO6.lt k h2).1
              omega) (by omega) (by rw [wsL_len]; omega)
            rw [wsL_len] at hr7 hX7
            have hL9 : (addS nx (oneN i) j e E (x + 1)).length = (addS nx (oneN i) j e E x).length + 1 := by rw [HST.out, HAE.out, List.length_append]; rfl
            have HF7 : Rac w1 w7 (.slice A10 ((addS nx (oneN i) j e E x).length + 1) c10) (.slice A12 ((addS nx (oneN i) j e E x).length + 1) c12) (addS nx (oneN i) j e E (x + 1)) := by
              rw [HST.out, HAE.out]
              refine ⟨?_, ?_, (HF5.out.trans (hb6.mono hz5)).trans hb7⟩
              · rw [psL_snoc]
                exact (HO5.out.kept hb6).keptT (hk7 _ (by decide))
              · rw [wsL_snoc]
                exact hX7
            have HF8 := Lib.hid HF7
            have HL9 := Lib.hid hL9
            clear hO6 hX6 hb6 hX7 hb7 hk7 HF7 hL9 x9
            go_wp2_with (at_builtin; refine Lib.wpList_append_run _ rfl _ _ _ _ rfl _ _ rfl rfl _ _ hr7 ?_)
            clear hr7
            go_wp2
            go_roundw
            case rel => exact ⟨x + 1, A10, A12, c10, c12, by omega, by go_num, by rw [HL9.out], by rw [HL9.out], by rw [HL9.out]; exact HF8.out⟩
            case measure => simp [intOf]; omega
        · obtain rfl : x = i := by omega
          have HON := Lib.hid (show xpl nx x n (addS nx (oneN x) j e E x) (j + 1) = R by
            have h2 := xpl_on hM HE.out hlt
            rw [← HEE.out] at h2
            rw [h2, HX.out])
          clear hE2 he2 hT
          go_wp2
          go_roundw
          case rel => exact ⟨j + 1, addS nx (oneN x) j e E x, A8, A9, c8, c9, by go_num, rfl, rfl, hj2, HE2.out, HON.out, HF2.out⟩
          case measure => simp [intOf]; omega
    · have hRR : R = E := by rw [← HX.out, xpl_end hlt]
      have HRR := Lib.hid hRR
      clear hRR hE hX hF
      go_wp2
      go_ret3
      rw [HRR.out]
      exact ⟨A6, c6, A7, c7, rfl, HF.out.ps.lower HB1.out.size, HF.out.ws.toL.lower HB1.out.size, HB1.out.trans (HF.out.bel.mono HB1.out.size)⟩
end Go.Proofs.Ytedcdpmflcegbaa
end

section
/- StateCover, Transitions, Path of the reference. -/
namespace Go.Proofs.Ytedcdpmflcegbaa
open Go.RowKit

theorem OwnedL.at_ {w : World} {base : Nat} {A : Option Addr} {n c : Nat} {xss : List (List Int)} (h : OwnedL w base (.slice A n c) xss) {j : Nat} (hj : j < xss.length) :
    ∃ g B d, A = some ⟨g, 0, none⟩ ∧ n = xss.length ∧ w.cell? ⟨g, j, none⟩ = some (.slice B (xss.getD j []).length d) ∧ Owned w base (.slice B (xss.getD j []).length d) (xss.getD j []) := by
  obtain ⟨vs, ho, hv⟩ := h
  rcases ho.2 with ⟨e, h1⟩ | ⟨g, cap, cur, e, _, hg, _⟩
  · have : xss.length = 0 := h1
    omega
  · cases e
    obtain ⟨B, d, h1, h2⟩ := hv j hj
    have h3 := World.ownsRow.cellAt ho j (by omega)
    exact ⟨g, B, d, rfl, rfl, by rw [h3, h1], h2⟩
theorem Mok.restart {i st n s : Nat} {nx ot : List (List Int)} (h : Mok i st n nx ot) (hs : s < n) : Mok i s n nx ot := { h with st := hs }
set_option maxHeartbeats 4000000 in
theorem racc_bad (i st : Int) (A B : Option Addr) (n c m d : Nat) (nx ot : List (List Int)) (w : World) (hx : Lists w A n nx) (ho : Lists w B m ot) (hv : ¬ vld i st nx ot = 0) :
    Calls Try.prog 12 #[.agg #[.int .i64 i, .int .i64 st, .slice A n c, .slice B m d]] w fun e w' => e = .returned (.tuple #[.slice none 0 0, .slice none 0 0, .int .i64 (vld i st nx ot)]) ∧ Below w.heap.size w w' := by
  have hb0 := alloc_below w (.cells #[.int .i64 i, .int .i64 st, .slice A n c, .slice B m d] 24)
  obtain ⟨E, hE⟩ : ∃ E, E = vld i st nx ot := ⟨_, rfl⟩
  rw [← hE]
  have HE := Lib.hid hE
  rw [← hE] at hv
  have hne : (E != 0) = true := by simpa using hv
  clear hE
  go_enter Try.func12, Try.ntmps12
  go_wp2_with fail
  refine (rvalid _ _ _ _ _ _ _ _ _ _ _ (hx.below hb0) (ho.below hb0)).mono ?_
  rintro e w1 ⟨rfl, b1⟩
  rw [← HE.out]
  clear hv
  go_wp2
  go_ret3
  exact ⟨rfl, bt hb0 b1⟩
theorem racc (i st : Int) (A B : Option Addr) (n c m d : Nat) (nx ot : List (List Int)) (w : World) (hx : Lists w A n nx) (ho : Lists w B m ot) :
    Calls Try.prog 12 #[.agg #[.int .i64 i, .int .i64 st, .slice A n c, .slice B m d]] w fun e w' => ∃ A1 c1 A2 c2, e = .returned (.tuple #[.slice A1 (accR i st nx ot).1.length c1, .slice A2 (accR i st nx ot).1.length c2, .int .i64 (accR i st nx ot).2]) ∧
      Owned w' w.heap.size (.slice A1 (accR i st nx ot).1.length c1) (psL (accR i st nx ot).1) ∧ OwnedL w' w.heap.size (.slice A2 (accR i st nx ot).1.length c2) (wsL (accR i st nx ot).1) ∧ Below w.heap.size w w' := by
  by_cases hv : vld i st nx ot = 0
  · obtain ⟨i', st', n', rfl, rfl, hM⟩ := vld_zero hv
    have e1 := hx.1
    have e2 := ho.1
    have e3 := hM.nxl
    have e4 := hM.otl
    obtain rfl : n = n' := by omega
    obtain rfl : n = m := by omega
    rw [accR_ok hM]
    exact racc_ok i' st' n A B c d nx ot w hx ho hM
  · rw [accR_bad hv]
    refine (racc_bad i st A B n c m d nx ot w hx ho hv).mono ?_
    rintro e w' ⟨rfl, hb⟩
    exact ⟨none, 0, none, 0, rfl, World.ownsRow_nil _ _ _ _, OwnedL.nil _ _, hb⟩
set_option maxHeartbeats 4000000 in
theorem rscov (i st : Int) (A B : Option Addr) (n c m d : Nat) (nx ot : List (List Int)) (w : World) (hx : Lists w A n nx) (ho : Lists w B m ot) :
    Calls Try.prog 14 #[.agg #[.int .i64 i, .int .i64 st, .slice A n c, .slice B m d]] w fun e w' => ∃ A2 c2, e = .returned (.tuple #[.slice A2 (accR i st nx ot).1.length c2, .int .i64 (accR i st nx ot).2]) ∧
      OwnedL w' w.heap.size (.slice A2 (accR i st nx ot).1.length c2) (wsL (accR i st nx ot).1) ∧ Below w.heap.size w w' := by
  have hb0 := alloc_below w (.cells #[.int .i64 i, .int .i64 st, .slice A n c, .slice B m d] 24)
  have hra := racc i st A B n c m d nx ot _ (hx.below hb0) (ho.below hb0)
  generalize accR i st nx ot = R at hra ⊢
  have HRA := Lib.hid hra
  clear hra
  go_enter Try.func14, Try.ntmps14
  go_wp2_with fail
  refine HRA.out.mono ?_
  rintro e w1 ⟨A1, c1, A2, c2, rfl, _, hL, b1⟩
  have HL := Lib.hid hL
  clear hL
  go_wp2
  go_ret2
  exact ⟨A2, c2, rfl, HL.out.lower (by simp), bt hb0 b1⟩

set_option maxHeartbeats 4000000 in
set_option maxRecDepth 100000 in
theorem rtrans (i st : Int) (A B : Option Addr) (n c m d : Nat) (nx ot : List (List Int)) (w : World) (hx : Lists w A n nx) (ho : Lists w B m ot) :
    Calls Try.prog 16 #[.agg #[.int .i64 i, .int .i64 st, .slice A n c, .slice B m d]] w fun e w' => ∃ A2 c2, e = .returned (.tuple #[.slice A2 (trnR i st nx ot).length c2, .int .i64 (accR i st nx ot).2]) ∧
      OwnedL w' w.heap.size (.slice A2 (trnR i st nx ot).length c2) (trnR i st nx ot) ∧ Below w.heap.size w w' := by
  have hb0 := alloc_below w (.cells #[.int .i64 i, .int .i64 st, .slice A n c, .slice B m d] 24)
  have hB := mealy_box w (.int .i64 i) (.int .i64 st) (.slice A n c) (.slice B m d)
  have hra := racc i st A B n c m d nx ot _ (hx.below hb0) (ho.below hb0)
  by_cases hv : vld i st nx ot = 0
  · obtain ⟨i', st', n', rfl, rfl, hM⟩ := vld_zero hv
    have e1 := hx.1
    have e2 := ho.1
    have e3 := hM.nxl
    have e4 := hM.otl
    obtain rfl : n = n' := by omega
    obtain rfl : n = m := by omega
    have hi64 := hM.i2
    have hn2 := hM.n2
    have hE := exs_ens (i := i') hM hM.st
    have hEl := hE.len
    have hch := hE.chn
    have htr : trnR (i' : Int) (st' : Int) nx ot = trW i' (wsL (exs nx i' n st')) := by unfold trnR; rw [accR_ok hM, Int.toNat_natCast]
    rw [htr]
    rw [accR_ok hM] at hra ⊢
    rw [trW_len, wsL_len]
    generalize exs nx i' n st' = E at hra hE hEl hch ⊢
    have HRA := Lib.hid hra
    have HCH := Lib.hid hch
    clear hra hch htr e1 e2 e3 e4 hv
    go_enter Try.func16, Try.ntmps16
    go_wp2_with fail
    refine HRA.out.mono ?_
    rintro e w1 ⟨A0, c0, A1, c1, rfl, _, hL, b1⟩
    have hB1 := hB.kept b1 (by simp)
    have hgt : w.heap.size < w1.heap.size := by have := b1.size; simp at this; omega
    have HLS := Lib.hid (hL.lists (by rw [wsL_len]; omega) (fun xs hx => by have := wsL_le hE xs hx; omega))
    have HB := Lib.hid (bt hb0 b1)
    have HM1 := Lib.hid hB1
    clear hL hB hb0 b1 hB1
    go_wp2
    go_loopw [7, 8] (fun v7 v8 wr => ∃ (j : Nat) (A2 : Option Addr) (c2 : Nat), j ≤ E.length ∧ v8 = .int .i64 j ∧ v7 = .slice A2 (j * i') c2 ∧ OwnedL wr w1.heap.size (.slice A2 (j * i') c2) (trW i' (wsL (E.take j))) ∧ Below w1.heap.size w1 wr) (fun _ v8 _ => E.length - (intOf v8).toNat)
    case atStart => exact ⟨0, none, 0, Nat.zero_le _, rfl, by rw [Nat.zero_mul], by rw [Nat.zero_mul]; exact OwnedL.nil _ _, Below.refl _ _⟩
    case round =>
      obtain ⟨j, A2, c2, hj, rfl, rfl, hO, hb⟩ := hrel
      by_cases hlt : j < E.length
      · obtain ⟨gA, oA, A3, nA, cA, eA, hgA, hdA, hrA⟩ := HLS.out.at_ hlt
        subst eA
        have HRA := Lib.hid (fun (W : World) (h : Below w1.heap.size w1 W) => And.intro ((h.cell (p := ⟨gA, oA + j, none⟩) hgA).trans hdA) (hrA.below h))
        have hu : (wsL E).getD j [] = (E.getD j Ent.zero).w := wsL_at' hlt
        have hul := HCH.out.wl j hlt
        have HNX := Lib.hid (show trW i' (wsL (E.take (j + 1))) = trW i' (wsL (E.take j)) ++ (List.range i').map fun (x : Nat) => (wsL E).getD j [] ++ [(x : Int)] by rw [wsL_take hlt, trW_snoc, hu])
        rw [← hu] at hul
        have hnl := hrA.1
        generalize (wsL E).getD j [] = u at HRA HNX hul hnl
        have hlj : (trW i' (wsL (E.take j))).length = j * i' := by rw [trW_len, wsL_len, List.length_take, Nat.min_eq_left (by omega)]
        have hji : j * i' ≤ 128 * 64 := Nat.mul_le_mul (by omega) hi64
        generalize trW i' (wsL (E.take j)) = L at hO HNX hlj
        obtain ⟨K, hK⟩ : ∃ K, K = j * i' := ⟨_, rfl⟩
        rw [← hK] at hO hji hlj ⊢
        have HK := Lib.hid hK
        have HO := Lib.hid hO
        have HB2 := Lib.hid hb
        have HLJ := Lib.hid hlj
        obtain rfl : nA = u.length := hnl.symm
        clear hO hb hrA hgA hu hlj hK hdA hnl
        go_wp2
        go_loopw [7, 9] (fun v7 v9 wq => ∃ (x : Nat) (A4 : Option Addr) (c4 : Nat), x ≤ i' ∧ v9 = .int .i64 x ∧ v7 = .slice A4 (K + x) c4 ∧ OwnedL wq w1.heap.size (.slice A4 (K + x) c4) (L ++ (List.range x).map fun (x : Nat) => u ++ [(x : Int)]) ∧ Below w1.heap.size w1 wq) (fun _ v9 _ => i' - (intOf v9).toNat)
        case atStart => exact ⟨0, A2, c2, Nat.zero_le _, rfl, rfl, by simpa using HO.out, HB2.out⟩
        case round =>
          obtain ⟨x, A4, c4, hx', rfl, rfl, hO, hb⟩ := hrel
          obtain ⟨k0, k1, k2, k3, _⟩ := (HM1.out.kept hb hgt).cells
          have HO4 := Lib.hid hO
          have HB4 := Lib.hid hb
          by_cases hlx : x < i'
          · obtain ⟨hd1, hI⟩ := HRA.out _ hb
            have HJ := Lib.hid (rext A3 u.length cA u (x : Int) wr hI (by omega))
            clear hI hO hb
            go_wp2_with fail
            refine HJ.out.mono ?_
            rintro e w3 ⟨A5, c5, rfl, hO5, hb5⟩
            have hO6 := HO4.out.kept hb5
            have hs3 := HB4.out.size
            have hs4 := hb5.size
            obtain ⟨A6, c6, w5, hr, hO7, hb7, _, _, _⟩ := run_append_list hO6 (hO5.lower hs3) (by omega) (by rw [List.length_append, List.length_map, List.length_range, HLJ.out]; omega)
            have hl6 : (L ++ (List.range x).map fun (x : Nat) => u ++ [(x : Int)]).length = K + x := by rw [List.length_append, List.length_map, List.length_range, HLJ.out]
            rw [hl6] at hr hO7
            have HO7 := Lib.hid hO7
            have HB7 := Lib.hid ((HB4.out.trans (hb5.mono hs3)).trans hb7)
            clear hO5 hb5 hO6 hO7 hb7 hl6 k0 k1 k2 k3 hd1
            go_wp2_with (at_builtin; refine Lib.wpList_append_run _ rfl _ _ _ _ rfl _ _ rfl rfl _ _ hr ?_)
            clear hr
            go_wp2
            go_roundw
            case rel => exact ⟨x + 1, A6, c6, by omega, by go_num, rfl, by rw [List.range_succ, List.map_append, ← List.append_assoc]; exact HO7.out, HB7.out⟩
            case measure => simp [intOf]; omega
          · obtain rfl : x = i' := by omega
            clear hO hb
            go_wp2
            go_roundw
            case rel => exact ⟨j + 1, A4, c4, by omega, by go_num, by rw [Nat.succ_mul, ← HK.out], by rw [Nat.succ_mul, ← HK.out, HNX.out]; exact HO4.out, HB4.out⟩
            case measure => simp [intOf]; omega
      · obtain rfl : j = E.length := by omega
        rw [List.take_of_length_le (Nat.le_refl _)] at hO
        have HO := Lib.hid hO
        have HB2 := Lib.hid hb
        clear hO hb
        go_wp2
        go_ret2
        exact ⟨A2, c2, rfl, HO.out.lower HB.out.size, HB.out.trans (HB2.out.mono HB.out.size)⟩
  · rw [accR_bad hv] at hra ⊢
    have htr : trnR i st nx ot = [] := by unfold trnR; rw [accR_bad hv]; rfl
    rw [htr]
    obtain ⟨E, hE⟩ : ∃ E, E = vld i st nx ot := ⟨_, rfl⟩
    rw [← hE] at hv hra ⊢
    have HRA := Lib.hid hra
    have hne : (E != 0) = true := by simpa using hv
    clear hE hra htr
    go_enter Try.func16, Try.ntmps16
    go_wp2_with fail
    refine HRA.out.mono ?_
    rintro e w1 ⟨A0, c0, A1, c1, rfl, _, _, b1⟩
    clear hv
    go_wp2
    go_ret2
    exact ⟨none, 0, rfl, OwnedL.nil _ _, bt hb0 b1⟩

set_option maxHeartbeats 4000000 in
set_option maxRecDepth 100000 in
theorem rpath (i st : Int) (A B : Option Addr) (n c m d : Nat) (nx ot : List (List Int)) (s t : Int) (w : World) (hx : Lists w A n nx) (ho : Lists w B m ot) :
    Calls Try.prog 20 #[.agg #[.int .i64 i, .int .i64 st, .slice A n c, .slice B m d], .int .i64 s, .int .i64 t] w fun e w' => ∃ A1 c1, e = .returned (.tuple #[.slice A1 ((pthR i st nx ot s t).1.getD []).length c1, .bool (pthR i st nx ot s t).1.isSome, .int .i64 (pthR i st nx ot s t).2]) ∧
      Owned w' w.heap.size (.slice A1 ((pthR i st nx ot s t).1.getD []).length c1) ((pthR i st nx ot s t).1.getD []) ∧ Below w.heap.size w w' := by
  have hb0 := alloc_below w (.cells #[.int .i64 i, .int .i64 st, .slice A n c, .slice B m d] 24)
  have hB := mealy_box w (.int .i64 i) (.int .i64 st) (.slice A n c) (.slice B m d)
  obtain ⟨R, hR⟩ : ∃ R, R = pthR i st nx ot s t := ⟨_, rfl⟩
  rw [← hR]
  unfold pthR at hR
  have hn1 := hx.1
  have hn2 := hx.2.1
  by_cases hv : vld i st nx ot = 0
  · rw [if_pos hv] at hR
    have HR := Lib.hid hR
    obtain ⟨i', st', n', rfl, rfl, hM⟩ := vld_zero hv
    have e3 := hM.nxl
    have e4 := hM.otl
    have e5 := ho.1
    obtain rfl : n = n' := by omega
    obtain rfl : n = m := by omega
    have HM := Lib.hid hM
    have hn128 := hM.n2
    clear hR e3 e4 e5 hM
    go_enter Try.func20, Try.ntmps20
    go_wp2_with fail
    refine (rvalid _ _ _ _ _ _ _ _ _ _ _ (hx.below hb0) (ho.below hb0)).mono ?_
    rintro e w1 ⟨rfl, a1⟩
    have hB1 := hB.kept a1 (by simp)
    have b1 := bt hb0 a1
    have hgt : w.heap.size < w1.heap.size := by have := a1.size; simp at this; omega
    obtain ⟨k0, k1, k2, k3, _⟩ := hB1.cells
    rw [hv]
    have HB1 := Lib.hid b1
    have hnl := hn1
    clear hB hb0 a1 hB1 b1 hv
    by_cases hok : (0 ≤ s ∧ s < (n : Int)) ∧ (0 ≤ t ∧ t < (n : Int))
    · obtain ⟨⟨s1, s2⟩, t1, t2⟩ := hok
      obtain ⟨s', rfl⟩ : ∃ s' : Nat, s = s' := ⟨s.toNat, by omega⟩
      have hsn : s' < n := by omega
      have hra := racc_ok i' s' n A B c d nx ot w1 (hx.below HB1.out) (ho.below HB1.out) (HM.out.restart hsn)
      have hE := exs_ens (i := i') HM.out hsn
      have hR2 := HR.out
      rw [if_pos (by rw [hnl]; exact ⟨⟨s1, s2⟩, t1, t2⟩), Int.toNat_natCast, Int.toNat_natCast, hnl] at hR2
      have hEl := hE.len
      generalize exs nx i' n s' = E at hra hE hR2 hEl
      have HRA := Lib.hid hra
      have HR2 := Lib.hid hR2
      have HE := Lib.hid hE
      have d1 : decide ((s' : Int) < 0) = false := decide_eq_false (by omega)
      have d2 : decide ((n : Int) ≤ (s' : Int)) = false := decide_eq_false (by omega)
      have d3 : decide (t < 0) = false := decide_eq_false (by omega)
      have d4 : decide ((n : Int) ≤ t) = false := decide_eq_false (by omega)
      clear hra hR2 hE
      go_wp2_with fail
      refine HRA.out.mono ?_
      rintro e w2 ⟨A2, c2, A3, c3, rfl, hO, hL, b2⟩
      have hI := hO.ints (by rw [psL_len]; omega)
      have HB2 := Lib.hid (bt HB1.out b2)
      have HL := Lib.hid hL
      have HI := Lib.hid hI
      clear hO hL hI b2 d1 d2 d3 d4 k0 k1 k2 k3
      go_wp2
      go_loop [13] (fun v => ∃ j : Nat, j ≤ E.length ∧ v = .int .i64 j ∧ ∀ m, m < j → ¬ (psL E).getD m 0 = t) (fun v => E.length - (intOf v).toNat)
      case atStart => exact ⟨0, Nat.zero_le _, rfl, fun m h => absurd h (by omega)⟩
      case round =>
        obtain ⟨j, hj, rfl, hne⟩ := hrel
        have HN := Lib.hid hne
        clear hne
        by_cases hlt : j < E.length
        · obtain ⟨b, off, e9, _, hcell⟩ := HI.out.at_ hlt
          subst e9
          obtain ⟨g3, B3, d3, e3, _, x3, hO3⟩ := HL.out.at_ (j := j) (by rw [wsL_len]; exact hlt)
          subst e3
          by_cases hx : (psL E).getD j 0 = t
          · have hfin := fi_hit (by rw [psL_len]; exact hlt) hx HN.out
            have HR3 := Lib.hid (show R = (some ((wsL E).getD j []), 0) by rw [HR2.out, pthW, hfin, wsL_at' hlt]; rfl)
            have ht : ((psL E).getD j 0 == t) = true := by rw [hx]; simp
            generalize (psL E).getD j 0 = y at hcell ht
            generalize (wsL E).getD j [] = u at HR3 x3 hO3
            have HO3 := Lib.hid hO3
            clear hx hfin hO3
            go_wp2
            go_ret3
            rw [HR3.out]
            exact ⟨B3, d3, rfl, HO3.out.lower HB1.out.size, HB2.out⟩
          · have HN2 := Lib.hid (show ∀ m, m < j + 1 → ¬ (psL E).getD m 0 = t from fun m hm => by
              by_cases h9 : m = j
              · subst h9; exact hx
              · exact HN.out m (by omega))
            have ht : ((psL E).getD j 0 == t) = false := by simpa using hx
            generalize (psL E).getD j 0 = y at hcell ht
            clear hx hO3 x3
            go_wp2
            go_round
            case rel => exact ⟨j + 1, by omega, by go_num, HN2.out⟩
            case measure => simp [intOf]; omega
        · obtain rfl : j = E.length := by omega
          have hfin := fi_miss (fun m hm => HN.out m (by rw [psL_len] at hm; exact hm))
          have HR3 := Lib.hid (show R = (none, 0) by rw [HR2.out, pthW, hfin]; rfl)
          clear hfin
          go_wp2
          go_ret3
          rw [HR3.out]
          exact ⟨none, 0, rfl, World.ownsRow_nil _ _ _ _, HB2.out⟩
    · have hR2 := HR.out
      rw [if_neg (by rw [hnl]; exact hok)] at hR2
      have HR2 := Lib.hid hR2
      clear hR2
      by_cases s1 : s < 0
      · have d1 : decide (s < 0) = true := decide_eq_true s1
        clear s1 hok
        go_wp2
        go_ret3
        rw [HR2.out]
        exact ⟨none, 0, rfl, World.ownsRow_nil _ _ _ _, HB1.out⟩
      · have d1 : decide (s < 0) = false := decide_eq_false s1
        by_cases s2 : (n : Int) ≤ s
        · have d2 : decide ((n : Int) ≤ s) = true := decide_eq_true s2
          clear s1 s2 hok
          go_wp2
          go_ret3
          rw [HR2.out]
          exact ⟨none, 0, rfl, World.ownsRow_nil _ _ _ _, HB1.out⟩
        · have d2 : decide ((n : Int) ≤ s) = false := decide_eq_false s2
          by_cases t1 : t < 0
          · have d3 : decide (t < 0) = true := decide_eq_true t1
            clear s1 s2 t1 hok
            go_wp2
            go_ret3
            rw [HR2.out]
            exact ⟨none, 0, rfl, World.ownsRow_nil _ _ _ _, HB1.out⟩
          · have d3 : decide (t < 0) = false := decide_eq_false t1
            have d4 : decide ((n : Int) ≤ t) = true := decide_eq_true (by omega)
            clear s1 s2 t1 hok
            go_wp2
            go_ret3
            rw [HR2.out]
            exact ⟨none, 0, rfl, World.ownsRow_nil _ _ _ _, HB1.out⟩
  · rw [if_neg hv] at hR
    have HR := Lib.hid hR
    obtain ⟨E, hE⟩ : ∃ E, E = vld i st nx ot := ⟨_, rfl⟩
    have HE := Lib.hid hE
    rw [← hE] at hv
    clear hR hE hB
    have hne : (E != 0) = true := by simpa using hv
    go_enter Try.func20, Try.ntmps20
    go_wp2_with fail
    refine (rvalid _ _ _ _ _ _ _ _ _ _ _ (hx.below hb0) (ho.below hb0)).mono ?_
    rintro e w1 ⟨rfl, b1⟩
    rw [← HE.out]
    clear hv
    go_wp2
    go_ret3
    rw [HR.out, ← HE.out]
    exact ⟨none, 0, rfl, World.ownsRow_nil _ _ _ _, bt hb0 b1⟩
end Go.Proofs.Ytedcdpmflcegbaa
end

section
/- The reference's table of taken transitions. -/
namespace Go.Proofs.Ytedcdpmflcegbaa
open Go.RowKit

theorem infobl : (Try.prog.info? 83).map (fun i => (i.zero, i.size, i.bytes)) = some (some (.slice none 0 0), 1, 24) := by kernel_rfl
/-- Rows of truth values, in blocks apart. -/
structure Tkn (w : World) (base : Nat) (v : Value) (n i : Nat) (gs : Nat → Nat) (f : Nat → Nat → Bool) : Prop where
  row : w.ownsRow base 83 1 v n ((List.range n).map fun s => Value.slice (some ⟨gs s, 0, Option.none⟩) i i)
  blk : ∀ s, s < n → base ≤ gs s ∧ Seen w (gs s) ((List.range i).map (f s))
  inj : ∀ s t, s < n → t < n → gs s = gs t → s = t
section
variable {w w' : World} {base n i : Nat} {v : Value} {gs : Nat → Nat} {f : Nat → Nat → Bool}
theorem _root_.Go.Proofs.Ytedcdpmflcegbaa.row_lower10 {w : World} {base base' n : Nat} {v : Value} {e : TypeId} {xs : List Value} (h : w.ownsRow base e 1 v n xs) (hb : base' ≤ base) : w.ownsRow base' e 1 v n xs := by
  refine ⟨h.1, ?_⟩
  rcases h.2 with e | ⟨g, cap, cur, hv, hbg, r⟩
  · exact .inl e
  · exact .inr ⟨g, cap, cur, hv, by omega, r⟩
theorem Tkn.lower {base' : Nat} (h : Tkn w base v n i gs f) (hb : base' ≤ base) : Tkn w base' v n i gs f := ⟨row_lower10 h.row hb, fun s hs => ⟨by have := (h.blk s hs).1; omega, (h.blk s hs).2⟩, h.inj⟩
theorem Tkn.nil (w : World) (base i : Nat) (gs : Nat → Nat) (f : Nat → Nat → Bool) : Tkn w base (.slice none 0 0) 0 i gs f := ⟨World.ownsRow_nil _ _ _ _, fun s h => absurd h (by omega), fun s t h => absurd h (by omega)⟩
theorem Tkn.keptT (h : Tkn w base v n i gs f) (h1 : KeptT 83 w w') (h2 : KeptT 4 w w') : Tkn w' base v n i gs f := by
  refine ⟨⟨h.row.1, ?_⟩, fun s hs => ⟨(h.blk s hs).1, h2 _ _ (h.blk s hs).2⟩, h.inj⟩
  rcases h.row.2 with e | ⟨g, cap, cur, hv, hbg, hg, r⟩
  · exact .inl e
  · exact .inr ⟨g, cap, cur, hv, hbg, h1 g cur hg, r⟩
theorem Tkn.kept (h : Tkn w base v n i gs f) (hb : Below w.heap.size w w') : Tkn w' base v n i gs f := h.keptT (KeptT.of_below hb) (KeptT.of_below hb)
theorem Tkn.at_ (h : Tkn w base v n i gs f) {s : Nat} (hs : s < n) : ∃ g c, v = .slice (some ⟨g, 0, Option.none⟩) n c ∧ w.cell? ⟨g, s, Option.none⟩ = some (.slice (some ⟨gs s, 0, Option.none⟩) i i) := by
  rcases h.row.2 with ⟨_, h1⟩ | ⟨g, cap, cur, e, _⟩
  · omega
  · refine ⟨g, cap, e, ?_⟩
    have h0 := h.row
    subst e
    have h3 := World.ownsRow.cellAt h0 s (by omega)
    rw [h3, List.getElem?_map, List.getElem?_range hs]; rfl
theorem Tkn.get (h : Tkn w base v n i gs f) {s a : Nat} (hs : s < n) (ha : a < i) : w.cell? ⟨gs s, a, Option.none⟩ = some (.bool (f s a)) ∧ w.frozen? ⟨gs s, a, Option.none⟩ = false := by
  have h1 := (h.blk s hs).2.at_ (x := a) (by simpa using ha)
  have e : ((List.range i).map (f s)).getD a false = f s a := by
    rw [List.getD_eq_getElem?_getD, List.getElem?_map, List.getElem?_range ha]; rfl
  rw [e] at h1
  exact h1
theorem Tkn.form (h : Tkn w base v n i gs f) : ∃ A c, v = .slice A n c := by
  rcases h.row.2 with ⟨rfl, h1⟩ | ⟨g, cap, cur, e, _⟩
  · exact ⟨none, 0, by rw [h1]⟩
  · exact ⟨_, _, e⟩
theorem Tkn.set (h : Tkn w base v n i gs f) {s : Nat} (hs : s < n) (a : Nat) : Tkn (w.setCell ⟨gs s, a, Option.none⟩ (.bool true)) base v n i gs (fun p x => f p x || (p == s && x == a)) := by
  have hS := (h.blk s hs).2
  have hk : KeptT 83 w (w.setCell ⟨gs s, a, Option.none⟩ (.bool true)) := KeptT.off hS (by decide) _
  refine ⟨⟨h.row.1, ?_⟩, fun t ht => ⟨(h.blk t ht).1, ?_⟩, h.inj⟩
  · rcases h.row.2 with e | ⟨g, cap, cur, hv, hbg, hg, r⟩
    · exact .inl e
    · exact .inr ⟨g, cap, cur, hv, hbg, hk g cur hg, r⟩
  · by_cases e : t = s
    · subst e
      have h2 := hS.set a true
      have e2 : ((List.range i).map (f t)).set a true = (List.range i).map fun x => f t x || (t == t && x == a) := by
        apply List.ext_getElem
        · simp
        · intro k h1 h2
          rw [List.getElem_set]
          by_cases e3 : a = k
          · subst e3; simp
          · rw [if_neg e3]
            have : ¬ k = a := fun h => e3 h.symm
            simp [this]
      rw [e2] at h2
      exact h2
    · have hne : ¬ gs t = gs s := fun h9 => e (h.inj t s ht hs h9)
      have h3 := (h.blk t ht).2
      have e2 : ((List.range i).map fun x => f t x || (t == s && x == a)) = (List.range i).map (f t) := by
        apply List.map_congr_left
        intro x _
        simp [e]
      rw [e2]
      unfold Seen at h3 ⊢
      rw [heap_setCell_other]
      · exact h3
      · exact hne
end
set_option maxRecDepth 100000 in
/-- append of a row of truth values. -/
theorem run_append_tkn {w : World} {base n i : Nat} {v : Value} {gs : Nat → Nat} (h : Tkn w base v n i gs (fun _ _ => false)) {g : Nat} (hg : Seen w g (List.replicate i false)) (hgb : base ≤ g) (hgn : ∀ s, s < n → gs s ≠ g) (hbase : base ≤ w.heap.size) (hl : n < 1099511627776) :
    ∃ A c w', (Builtin.append_ #[79, 79] 79 #[v, .slice (some ⟨w.heap.size, 0, none⟩) 1 1]).run Try.prog (w.alloc (.cells #[.slice (some ⟨g, 0, none⟩) i i] 83)) = .ok (.slice A (n + 1) c) w' ∧
      Tkn w' base (.slice A (n + 1) c) (n + 1) i (fun s => if s = n then g else gs s) (fun _ _ => false) ∧ Below base w w' := by
  obtain ⟨i', hi, hz0, hz1, hz2⟩ := info_parts infobl
  have ho := h.row
  have hbz := alloc_below w (.cells #[.slice (some ⟨g, 0, none⟩) i i] 83)
  have ho1 : (w.alloc (.cells #[.slice (some ⟨g, 0, none⟩) i i] 83)).ownsRow base 83 1 v n ((List.range n).map fun s => Value.slice (some ⟨gs s, 0, Option.none⟩) i i) := by
    refine ⟨ho.1, ?_⟩
    rcases ho.2 with e | ⟨g, cap, cur, hv, hbg, hg, r⟩
    · exact .inl e
    · exact .inr ⟨g, cap, cur, hv, hbg, (hbz.block g (heap_lt hg)).trans hg, r⟩
  obtain ⟨v', w', hr, h1, h2, _, hmv⟩ := run_append_own_at (P := Try.prog) (w.alloc (.cells #[.slice (some ⟨g, 0, none⟩) i i] 83)) base 79 79 83 i' (.slice none 0 0) 1 24 Try.underlying79 hi hz0 hz1 hz2 rfl (by decide) v _ _ ho1 ⟨w.heap.size, 0, none⟩ 1 1 [.slice (some ⟨g, 0, none⟩) i i] (by simp)
    (by
      intro j u hu
      cases j with
      | zero =>
        simp at hu
        subst hu
        simp [Addr.add]
      | succ j => simp at hu)
    (by intro u hu; simp at hu; subst hu; rfl) (by unfold maxLen; omega) (by omega) (Nat.le_trans hbase hbz.size)
  have hs : ∀ t, t ≠ 83 → KeptT t w w' := fun t ht => (KeptT.of_below hbz).trans (KeptT.grown h2 ho1 ht)
  have hform : ∃ A c, v' = .slice A (n + 1) c := by
    rcases h1.2 with ⟨rfl, h0⟩ | ⟨g, cap, cur, rfl, _⟩
    · have := h1.1; rw [h0] at this; simp at this
    · exact ⟨_, _, rfl⟩
  obtain ⟨A, c, rfl⟩ := hform
  refine ⟨A, c, w', hr, ⟨?_, fun s hs2 => ?_, fun s t hs1 ht1 e => ?_⟩, (hbz.mono hbase).trans ((Below.refl _ _).grown h2 (Nat.le_trans hbase hbz.size) (fun k hk => (World.ownsRow.lt ho1 k hk).1))⟩
  · have e : (List.range (n + 1)).map (fun s => Value.slice (some ⟨if s = n then g else gs s, 0, Option.none⟩) i i) = (List.range n).map (fun s => Value.slice (some ⟨gs s, 0, Option.none⟩) i i) ++ [.slice (some ⟨g, 0, none⟩) i i] := by
      rw [List.range_succ, List.map_append]
      congr 1
      · apply List.map_congr_left
        intro x hx
        have : x ≠ n := by have := List.mem_range.1 hx; omega
        rw [if_neg this]
      · simp
    rw [e]
    exact h1
  · show base ≤ (if s = n then g else gs s) ∧ Seen w' (if s = n then g else gs s) _
    by_cases e : s = n
    · rw [if_pos e]
      refine ⟨hgb, hs _ (by decide) _ _ ?_⟩
      have e2 : (List.range i).map (fun _ => false) = List.replicate i false := by rw [List.map_const', List.length_range]
      rw [e2]
      exact hg
    · rw [if_neg e]
      obtain ⟨h3, h4⟩ := h.blk s (by omega)
      exact ⟨h3, hs _ (by decide) _ _ h4⟩
  · have e : (if s = n then g else gs s) = (if t = n then g else gs t) := e
    by_cases e1 : s = n
    · by_cases e2 : t = n
      · omega
      · rw [if_pos e1, if_neg e2] at e
        exact absurd e.symm (hgn t (by omega))
    · by_cases e2 : t = n
      · rw [if_neg e1, if_pos e2] at e
        exact absurd e (hgn s (by omega))
      · rw [if_neg e1, if_neg e2] at e
        exact h.inj s t (by omega) (by omega) e

set_option maxHeartbeats 4000000 in
theorem rnone (i : Nat) (st : Int) (A B : Option Addr) (n c m d : Nat) (nx : List (List Int)) (w : World) (hx : Lists w A n nx) (hi : i ≤ 64) (hn : n ≤ 128) :
    Calls Try.prog 41 #[.agg #[.int .i64 i, .int .i64 st, .slice A n c, .slice B m d]] w fun e w' => ∃ A' c' gs, e = .returned (.slice A' n c') ∧ Tkn w' w.heap.size (.slice A' n c') n i gs (fun _ _ => false) ∧ Below w.heap.size w w' := by
  have hb0 := alloc_below w (.cells #[.int .i64 i, .int .i64 st, .slice A n c, .slice B m d] 24)
  have hB := mealy_box w (.int .i64 i) (.int .i64 st) (.slice A n c) (.slice B m d)
  obtain ⟨w0, hw0⟩ : ∃ w0, w0 = w.alloc (.cells #[.int .i64 i, .int .i64 st, .slice A n c, .slice B m d] 24) := ⟨_, rfl⟩
  rw [← hw0] at hb0 hB
  have hz0 : w0.heap.size = w.heap.size + 1 := by rw [hw0]; simp
  have HW0 := Lib.hid hw0
  have HBX := Lib.hid (fun (W : World) (h : Below w0.heap.size w0 W) => hB.kept h (by omega))
  clear hw0 hB
  go_enter Try.func41, Try.ntmps41
  go_wp2_with fail
  rw [← HW0.out]
  go_loopw [3, 4] (fun v3 v4 wr => ∃ (s : Nat) (A3 : Option Addr) (c3 : Nat) (gs : Nat → Nat), s ≤ n ∧ v4 = .int .i64 s ∧ v3 = .slice A3 s c3 ∧ Tkn wr w0.heap.size (.slice A3 s c3) s i gs (fun _ _ => false) ∧ (∀ k, k < s → gs k < wr.heap.size) ∧ Below w0.heap.size w0 wr) (fun _ v4 _ => n - (intOf v4).toNat)
  case atStart => exact ⟨0, none, 0, fun _ => 0, Nat.zero_le _, rfl, rfl, Tkn.nil _ _ _ _ _, fun k h => absurd h (by omega), Below.refl _ _⟩
  case round =>
    obtain ⟨s, A3, c3, gs, hs, rfl, rfl, hT, hgs, hb⟩ := hrel
    obtain ⟨k0, k1, k2, k3, _⟩ := (HBX.out wr hb).cells
    have HT := Lib.hid hT
    have HGS := Lib.hid hgs
    have HB := Lib.hid hb
    clear hT hgs hb
    by_cases hlt : s < n
    · have hi2 : i ≤ 17592186044416 := by omega
      go_wp2_with (first | (refine wpList_make_bools _ rfl _ _ rfl .i64 .i64 i rfl rfl hi2 ?_; intro w2 se2 b2; obtain ⟨A4, c4, w4, hr, hT4, hb4⟩ := run_append_tkn (HT.out.kept b2) se2 HB.out.size (fun k hk => by have := HGS.out k hk; omega) (Nat.le_trans HB.out.size b2.size) (by omega); have HT4 := Lib.hid hT4; have HB4 := Lib.hid ((HB.out.trans (b2.mono HB.out.size)).trans hb4); have hz2 := heap_lt se2; have hz4 := hb4.size; have HS4 := Lib.hid (show ∀ k, k < s + 1 → (if k = s then wr.heap.size else gs k) < w4.heap.size from fun k hk => by split <;> first | omega | (have := HGS.out k (by omega); have := b2.size; omega)); clear hT4 hb4 b2 se2 k0 k1 k2 k3) | (at_builtin; refine Lib.wpList_append_run _ rfl _ _ _ _ rfl _ _ rfl rfl _ _ hr ?_))
      go_roundw
      case rel => exact ⟨s + 1, A4, c4, fun k => if k = s then wr.heap.size else gs k, by omega, by go_num, rfl, HT4.out, HS4.out, HB4.out⟩
      case measure => simp [intOf]; omega
    · obtain rfl : s = n := by omega
      go_wp2
      go_ret
      have h1 := HB.out.size
      exact ⟨A3, c3, gs, rfl, HT.out.lower (by omega), hb0.trans (HB.out.mono (by omega))⟩
end Go.Proofs.Ytedcdpmflcegbaa
end

section
/- The reference's fresh transition. -/
namespace Go.Proofs.Ytedcdpmflcegbaa
open Go.RowKit

section
variable {h : Nat → Nat → Bool} {i a : Nat}
theorem frs_of : ∀ {l : List Ent} {j : Nat}, j < l.length → (∀ c, c < j → fH h (l.getD c Ent.zero) i = none) → fH h (l.getD j Ent.zero) i = some a → frs h i l = some (l.getD j Ent.zero, a)
  | [], _, hj, _, _ => absurd hj (by simp)
  | e :: l, 0, _, _, h2 => by
    rw [frs, show fH h e i = some a from h2]; rfl
  | e :: l, j + 1, hj, h1, h2 => by
    rw [frs, show fH h e i = none from h1 0 (by omega)]
    exact frs_of (l := l) (j := j) (by simpa using hj) (fun c hc => h1 (c + 1) (by omega)) h2
theorem frs_nil : ∀ {l : List Ent}, (∀ c, c < l.length → fH h (l.getD c Ent.zero) i = none) → frs h i l = none
  | [], _ => rfl
  | e :: l, h1 => by
    rw [frs, show fH h e i = none from h1 0 (by simp)]
    exact frs_nil (l := l) fun c hc => h1 (c + 1) (by simpa using hc)
end
def fshW : Option (Ent × Nat) → List Int
  | some y => y.1.w ++ [(y.2 : Int)]
  | none => []
def fshT (nx : List (List Int)) : Option (Ent × Nat) → Nat
  | some y => nN nx y.1.p y.2
  | none => 0

set_option maxHeartbeats 4000000 in
set_option maxRecDepth 100000 in
theorem rfresh (i st n s : Nat) (A B : Option Addr) (c d : Nat) (nx ot : List (List Int)) (V : Value) (bs : Nat) (gs : Nat → Nat) (f : Nat → Nat → Bool) (w : World) (hx : Lists w A n nx) (ho : Lists w B n ot) (hM : Mok i st n nx ot) (hs : s < n) (hT : Tkn w bs V n i gs f) :
    Calls Try.prog 42 #[.agg #[.int .i64 i, .int .i64 st, .slice A n c, .slice B n d], .int .i64 s, V] w fun e w' => ∃ A' c', e = .returned (.tuple #[.slice A' (fshW (frs (fun p x => !f p x) i (exs nx i n s))).length c', .int .i64 (fshT nx (frs (fun p x => !f p x) i (exs nx i n s))), .bool (frs (fun p x => !f p x) i (exs nx i n s)).isSome]) ∧
      Owned w' w.heap.size (.slice A' (fshW (frs (fun p x => !f p x) i (exs nx i n s))).length c') (fshW (frs (fun p x => !f p x) i (exs nx i n s))) ∧ Below w.heap.size w w' := by
  have hb0 := alloc_below w (.cells #[.int .i64 i, .int .i64 st, .slice A n c, .slice B n d] 24)
  have hB := mealy_box w (.int .i64 i) (.int .i64 st) (.slice A n c) (.slice B n d)
  obtain ⟨w0, hw0⟩ : ∃ w0, w0 = w.alloc (.cells #[.int .i64 i, .int .i64 st, .slice A n c, .slice B n d] 24) := ⟨_, rfl⟩
  rw [← hw0] at hb0 hB
  have hz0 : w0.heap.size = w.heap.size + 1 := by rw [hw0]; simp
  have HW0 := Lib.hid hw0
  have HBX := Lib.hid (fun (W : World) (h : Below w0.heap.size w0 W) => hB.kept h (by omega))
  have HX := Lib.hid (fun (W : World) (h : Below w0.heap.size w0 W) => (hx.below hb0).below h)
  have HT := Lib.hid (fun (W : World) (h : Below w0.heap.size w0 W) => (hT.kept hb0).kept h)
  have hra := racc_ok i s n A B c d nx ot w0 (hx.below hb0) (ho.below hb0) (hM.restart hs)
  have hE := exs_ens (i := i) hM hs
  have hn2 := hM.n2
  have hi64 := hM.i2
  obtain ⟨R, hR⟩ : ∃ R, R = frs (fun p x => !f p x) i (exs nx i n s) := ⟨_, rfl⟩
  rw [← hR]
  generalize exs nx i n s = E at hra hE hR
  have HRA := Lib.hid hra
  have HR := Lib.hid hR
  have HE := Lib.hid hE
  have hlen := hE.len
  obtain ⟨k0, k1, k2, k3, _⟩ := hB.cells
  rw [HW0.out] at k0 k1 k2 k3
  clear hw0 hB hx ho hT hra hR hE
  go_enter Try.func42, Try.ntmps42
  go_wp2_with fail
  rw [← HW0.out]
  refine HRA.out.mono ?_
  rintro e w2 ⟨A2, c2, A3, c3, rfl, hO, hL, b2⟩
  have HI := Lib.hid (fun (W : World) (h : Below w2.heap.size w2 W) => (hO.kept h).ints (by rw [psL_len]; omega))
  have HL := Lib.hid (fun (W : World) (h : Below w2.heap.size w2 W) => (hL.kept h).lists (by rw [wsL_len]; omega) (fun x hx => by have := wsL_le HE.out x hx; omega))
  have HB2 := Lib.hid b2
  clear hO hL b2 k0 k1 k2 k3
  go_wp2
  go_loop [12] (fun v12 => ∃ j : Nat, j ≤ E.length ∧ v12 = .int .i64 j ∧ ∀ k, k < j → fH (fun p x => !f p x) (E.getD k Ent.zero) i = none) (fun v12 => E.length - (intOf v12).toNat)
  case atStart => exact ⟨0, Nat.zero_le _, rfl, fun k h => absurd h (by omega)⟩
  case round =>
    obtain ⟨j, hj, rfl, hne⟩ := hrel
    have HN := Lib.hid hne
    clear hne
    by_cases hlt : j < E.length
    · have hbc := Below.refl w2.heap.size w2
      obtain ⟨g6, o6, e6, _, x6⟩ := (HI.out _ hbc).at_ hlt
      rw [psL_at' hlt] at x6
      subst e6
      have hp := (HE.out.lt _ (getDE_mem hlt)).1
      go_wp2
      go_loop [13] (fun v13 => ∃ x : Nat, x ≤ i ∧ v13 = .int .i64 x ∧ fH (fun p x => !f p x) (E.getD j Ent.zero) x = none) (fun v13 => i - (intOf v13).toNat)
      case atStart => exact ⟨0, Nat.zero_le _, rfl, rfl⟩
      case round =>
        obtain ⟨x, hx, rfl, hf⟩ := hrel
        have HF := Lib.hid hf
        clear hf
        obtain ⟨k0, k1, k2, k3, _⟩ := (HBX.out w2 HB2.out).cells
        by_cases hxi : x < i
        · obtain ⟨gT, cT, eT, xT⟩ := (HT.out w2 HB2.out).at_ hp
          subst eT
          have xv := ((HT.out w2 HB2.out).get hp hxi).1
          have hxf : (f (E.getD j Ent.zero).p x) = f (E.getD j Ent.zero).p x := rfl
          cases hfv : f (E.getD j Ent.zero).p x with
          | true =>
            rw [hfv] at xv
            have HF2 := Lib.hid (fH_step (h := fun p x => !f p x) HF.out (show (!f (E.getD j Ent.zero).p x) = false by rw [hfv]; rfl))
            clear hfv hxf
            generalize (E.getD j Ent.zero).p = p at x6 xT xv hp
            go_wp2
            go_round
            case rel => exact ⟨x + 1, by omega, by go_num, HF2.out⟩
            case measure => simp [intOf]; omega
          | false =>
            rw [hfv] at xv
            have HR2 := Lib.hid (show R = some (E.getD j Ent.zero, x) by
              rw [HR.out]
              exact frs_of hlt HN.out (fH_hit HF.out (show (!f (E.getD j Ent.zero).p x) = true by rw [hfv]; rfl) hxi))
            clear hfv hxf
            have HK := Lib.hid (show ∀ W, Below w2.heap.size w2 W → Lists W A n nx from fun W h => HX.out W (bt HB2.out h))
            obtain ⟨gA, oA, A1, nA, cA, eA, hgA, hdA, hrA⟩ := (HX.out w2 HB2.out).at_ hp
            have m1 := hrA.1
            have w1' := (hM.row _ hp).1
            obtain rfl : i = nA := by omega
            subst eA
            obtain ⟨hA2, iA2, eA2, lA, vA⟩ := hrA.at_ hxi
            subst eA2
            have rA : (nx.getD (E.getD j Ent.zero).p []).getD x 0 = ((nN nx (E.getD j Ent.zero).p x : Nat) : Int) := hM.nN_eq hp hxi
            rw [rA] at vA
            obtain ⟨g9, o9, Aw, nw, cw, e9, lg9, x9, hIw⟩ := (HL.out _ hbc).at_ hlt
            subst e9
            rw [wsL_at' hlt] at hIw
            have hel := HE.out.wl j hlt
            generalize hee : E.getD j Ent.zero = e at x6 xT xv hp hdA vA hIw HR2 hel
            obtain rfl : nw = e.w.length := hIw.1.symm
            have HS := Lib.hid (show ∀ W, Below w2.heap.size w2 W → W.cell? ⟨w.heap.size, 0, none⟩ = some (.int .i64 (i : Int)) ∧ W.cell? ⟨w.heap.size, 2, none⟩ = some (.slice (some ⟨gA, oA, none⟩) n c) ∧ W.cell? ⟨g6, o6 + j, none⟩ = some (.int .i64 (e.p : Int)) ∧ W.cell? ⟨gA, oA + e.p, none⟩ = some (.slice (some ⟨hA2, iA2, none⟩) i cA) ∧ W.cell? ⟨hA2, iA2 + x, none⟩ = some (.int .i64 ((nN nx e.p x : Nat) : Int)) ∧ W.cell? ⟨g9, o9 + j, none⟩ = some (.slice Aw e.w.length cw) from fun W h => by
              exact ⟨(h.cell (block_lt k0)).trans k0, (h.cell (block_lt k2)).trans k2, (h.cell (block_lt x6)).trans x6, (h.cell (block_lt hdA)).trans hdA, (h.cell (block_lt vA)).trans vA, (h.cell (block_lt x9)).trans x9⟩)
            have HEX := Lib.hid (show ∀ W, Below w2.heap.size w2 W → Calls Try.prog 34 #[.slice Aw e.w.length cw, .int .i64 x] W fun e2 w' => ∃ A' c', e2 = .returned (.slice A' (e.w.length + 1) c') ∧ Owned w' w2.heap.size (.slice A' (e.w.length + 1) c') (e.w ++ [(x : Int)]) ∧ Below W.heap.size W w' from fun W h => (rext Aw e.w.length cw e.w (x : Int) W (hIw.below h) (by omega)).mono (by rintro e2 w' ⟨A', c', rfl, hO, b⟩; exact ⟨A', c', rfl, hO.lower h.size, b⟩))
            clear hrA m1 w1' rA hgA lA lg9 hIw hee hbc
            have hbc : Below w2.heap.size w2 w2.drew := (Below.refl _ w2).drew
            go_wp2_with fail
            go_region_held3 (fun W => W.cell? ⟨w.heap.size, 0, none⟩ = some (.int .i64 (i : Int)) ∧ W.cell? ⟨w.heap.size, 2, none⟩ = some (.slice (some ⟨gA, oA, none⟩) n c) ∧ W.cell? ⟨g6, o6 + j, none⟩ = some (.int .i64 (e.p : Int)) ∧ W.cell? ⟨gA, oA + e.p, none⟩ = some (.slice (some ⟨hA2, iA2, none⟩) i cA) ∧ W.cell? ⟨hA2, iA2 + x, none⟩ = some (.int .i64 ((nN nx e.p x : Nat) : Int)) ∧ W.cell? ⟨g9, o9 + j, none⟩ = some (.slice Aw e.w.length cw)) (first | exact HS.out _ hbc) ((go_at_call 34; refine (HEX.out _ hbc).mono ?_; rintro e2 w' ⟨A', c', rfl, hO', b'⟩; have hbc := bt hbc b'))
            have HO9 := Lib.hid hO'
            have HB9 := Lib.hid (bt hb0 (bt HB2.out hbc))
            clear hO' hbc
            go_wp2
            go_ret3
            rw [HR2.out]
            have hl9 : (fshW (some (e, x))).length = e.w.length + 1 := by show (e.w ++ [(x : Int)]).length = _; rw [List.length_append]; rfl
            have hz9 := HB2.out.size
            rw [hl9]
            exact ⟨A', c', rfl, HO9.out.lower (by omega), HB9.out⟩
        · obtain rfl : x = i := by omega
          have HN2 := Lib.hid (show ∀ k, k < j + 1 → fH (fun p x => !f p x) (E.getD k Ent.zero) x = none from fun k hk => by
            by_cases h9 : k = j
            · subst h9; exact HF.out
            · exact HN.out k (by omega))
          go_wp2
          go_round
          case rel => exact ⟨j + 1, by omega, by go_num, HN2.out⟩
          case measure => simp [intOf]; omega
    · obtain rfl : j = E.length := by omega
      have HR2 := Lib.hid (show R = none from HR.out.trans (frs_nil HN.out))
      go_wp2
      go_ret3
      rw [HR2.out]
      exact ⟨none, 0, rfl, World.ownsRow_nil _ _ _ _, bt hb0 HB2.out⟩
end Go.Proofs.Ytedcdpmflcegbaa
end

section
/- The reference's tour. -/
namespace Go.Proofs.Ytedcdpmflcegbaa
open Go.RowKit

theorem Tk.mrk_tk (T : Tk) (x : Nat) : (T.mrk x).tk = fun p y => T.tk p y || (p == T.pos && y == x) := by
  funext p y
  unfold Tk.mrk
  split
  · rename_i h
    by_cases e : p = T.pos ∧ y = x
    · obtain ⟨rfl, rfl⟩ := e
      simp [h]
    · have : (p == T.pos && y == x) = false := by
        by_cases e1 : p = T.pos
        · have e2 : ¬ y = x := fun h9 => e ⟨e1, h9⟩
          simp [e2]
        · simp [e1]
      rw [this, Bool.or_false]
  · rfl
theorem Tk.vst_tk (T : Tk) : T.vst.tk = T.tk := by unfold Tk.vst; split <;> rfl
theorem Tk.go_tk (nx : List (List Int)) (T : Tk) (x : Nat) : (T.go nx x).tk = fun p y => T.tk p y || (p == T.pos && y == x) := by
  unfold Tk.go
  rw [Tk.vst_tk]
  exact Tk.mrk_tk T x
theorem Tk.fol_take (nx : List (List Int)) (T : Tk) (u : List Int) {k : Nat} (hk : k < u.length) : T.fol nx (u.take (k + 1)) = (T.fol nx (u.take k)).go nx (u.getD k 0).toNat := by
  rw [List.take_succ_eq_append_getElem hk, Tk.fol_snoc, List.getD_eq_getElem?_getD, List.getElem?_eq_getElem hk]; rfl
theorem nrW_fsh (nx : List (List Int)) (T : Tk) (i n : Nat) : nrW nx T i n = (if (frs (fun p x => !T.tk p x) i (exs nx i n T.pos)).isSome then some (fshW (frs (fun p x => !T.tk p x) i (exs nx i n T.pos))) else none) := by
  unfold nrW
  cases frs (fun p x => !T.tk p x) i (exs nx i n T.pos) with
  | none => rfl
  | some y => rfl
theorem fshT_pos {i st n : Nat} {nx ot : List (List Int)} (hM : Mok i st n nx ot) {T : Tk} (hp : T.pos < n) {y : Ent × Nat} (h : frs (fun p x => !T.tk p x) i (exs nx i n T.pos) = some y) : fshT nx (some y) = (T.fol nx (fshW (some y))).pos := by
  obtain ⟨e, a⟩ := y
  obtain ⟨k, hk, rfl, h1, _⟩ := frs_some h
  have hr := exs_run hM hp hk
  show nN nx _ a = (T.fol nx (_ ++ [(a : Int)])).pos
  rw [Tk.fol_pos, runS_app, hr.2]
  rfl

set_option maxHeartbeats 4000000 in
set_option maxRecDepth 100000 in
theorem rtour_ok (i st n : Nat) (A B : Option Addr) (c d : Nat) (nx ot : List (List Int)) (w : World) (hx : Lists w A n nx) (ho : Lists w B n ot) (hM : Mok i st n nx ot) (hn12 : n ≤ 12) (hi6 : i ≤ 6) :
    Calls Try.prog 22 #[.agg #[.int .i64 i, .int .i64 st, .slice A n c, .slice B n d]] w fun e w' => ∃ A1 c1, e = .returned (.tuple #[.slice A1 ((tourR i st nx ot).1.getD []).length c1, .int .i64 (tourR i st nx ot).2]) ∧
      Owned w' w.heap.size (.slice A1 ((tourR i st nx ot).1.getD []).length c1) ((tourR i st nx ot).1.getD []) ∧ Below w.heap.size w w' := by
  have hb0 := alloc_below w (.cells #[.int .i64 i, .int .i64 st, .slice A n c, .slice B n d] 24)
  have hB := mealy_box w (.int .i64 i) (.int .i64 st) (.slice A n c) (.slice B n d)
  have hra := racc_ok i st n A B c d nx ot _ (hx.below hb0) (ho.below hb0) hM
  obtain ⟨R, hR⟩ : ∃ R, R = tourR i st nx ot := ⟨_, rfl⟩
  rw [← hR]
  have hR : R = touF (trr nx i n ((exs nx i n st).length * i) (Tk.zero st) []) := by
    rw [hR]
    unfold tourR
    rw [if_pos hM.vld, hM.nxl, Int.toNat_natCast, Int.toNat_natCast]
  have hE := exs_ens (i := i) hM hM.st
  have hlen := hE.len
  generalize (exs nx i n st).length = K at hra hR hlen
  obtain ⟨r, hr⟩ : ∃ r, trr nx i n (K * i) (Tk.zero st) [] = r := ⟨_, rfl⟩
  rw [hr] at hR
  have HR := Lib.hid hR
  have HRR := Lib.hid hr
  have HRA := Lib.hid hra
  have hst := hM.st
  clear hr hR hra hE
  go_enter Try.func22, Try.ntmps22
  go_wp2_with fail
  refine HRA.out.mono ?_
  rintro e w1 ⟨A2, c2, A3, c3, rfl, _, _, b1⟩
  have hgt : w.heap.size < w1.heap.size := by have := b1.size; simp at this; omega
  have hB1 := hB.kept b1 (by simp)
  have HBX := Lib.hid (fun (W : World) (h : Below w1.heap.size w1 W) => hB1.kept h hgt)
  have HB1 := Lib.hid (bt hb0 b1)
  obtain ⟨k0, k1, k2, k3, _⟩ := hB1.cells
  clear hb0 hB hB1 b1
  go_wp2_with fail
  refine (rnone i st A B n c n d nx w1 (hx.below HB1.out) (by omega) (by omega)).mono ?_
  rintro e w2 ⟨AT, cT, gs, rfl, hT, b2⟩
  obtain ⟨k0, k1, k2, k3, _⟩ := (HBX.out w2 b2).cells
  have HT0 := Lib.hid hT
  have HB2 := Lib.hid b2
  have hKi : K * i ≤ 12 * 6 := Nat.mul_le_mul (by omega) hi6
  have hmul : IntKind.i64.wrap ((K : Int) * (i : Int)) = ((K * i : Nat) : Int) := by
    rw [← Int.natCast_mul]
    generalize K * i = z at hKi
    exact IntWalk.i64_in _ (by omega)
  obtain ⟨Z, hZ⟩ : ∃ Z, Z = K * i := ⟨_, rfl⟩
  rw [← hZ] at hmul hKi
  have HZ := Lib.hid hZ
  clear hT b2 hZ
  go_wp2_with fail
  clear hmul k0 k1 k2 k3
  go_loopw [8, 9, 10] (fun v8 v9 v10 wr => ∃ (left : Nat) (T : Tk) (out : List Int) (A8 : Option Addr) (c8 : Nat), v10 = .int .i64 left ∧ v9 = .int .i64 T.pos ∧ v8 = .slice A8 out.length c8 ∧ left ≤ Z ∧ T.pos < n ∧ out.length ≤ (Z - left) * 12 ∧ trr nx i n left T out = r ∧ Owned wr w1.heap.size (.slice A8 out.length c8) out ∧ Tkn wr w1.heap.size (.slice AT n cT) n i gs T.tk ∧ Below w1.heap.size w1 wr) (fun _ _ v10 _ => (intOf v10).toNat)
  case atStart => exact ⟨Z, Tk.zero st, [], none, 0, rfl, rfl, rfl, Nat.le_refl _, hst, by simp, by rw [HZ.out]; exact HRR.out, World.ownsRow_nil _ _ _ _, HT0.out, HB2.out⟩
  case round =>
    obtain ⟨left, T, out, A8, c8, rfl, rfl, rfl, hlz, hpos, hol, htr, hO, hT, hb⟩ := hrel
    obtain ⟨k0, k1, k2, k3, _⟩ := (HBX.out wr hb).cells
    have HTR := Lib.hid htr
    have HO := Lib.hid hO
    have HT := Lib.hid hT
    have HB := Lib.hid hb
    have hzb := hb.size
    clear htr hO hT hb
    by_cases hl0 : 0 < left
    · obtain ⟨l2, rfl⟩ : ∃ l2, left = l2 + 1 := ⟨left - 1, by omega⟩
      have hFR := rfresh i st n T.pos A B c d nx ot (.slice AT n cT) w1.heap.size gs T.tk wr ((hx.below HB1.out).below HB.out) ((ho.below HB1.out).below HB.out) hM hpos HT.out
      have hnr := nrW_fsh nx T i n
      have hft := fun y h => fshT_pos (y := y) hM hpos h
      have hsp := fun u h => nrW_spec (u := u) hM hpos h
      generalize frs (fun p x => !T.tk p x) i (exs nx i n T.pos) = F at hFR hnr hft
      have HFR := Lib.hid hFR
      have HSP := Lib.hid hsp
      clear hFR hsp
      cases F with
      | none =>
        have hnr : nrW nx T i n = none := hnr
        have HR3 := Lib.hid (show R = (none, 8) by
          have h1 := HTR.out
          rw [trr, hnr] at h1
          rw [HR.out, ← h1]; rfl)
        clear hnr hft
        go_wp2_with fail
        refine HFR.out.mono ?_
        rintro e w5 ⟨A5, c5, rfl, _, b5⟩
        have HBE := Lib.hid (HB1.out.trans ((HB.out.trans (b5.mono hzb)).mono HB1.out.size))
        clear b5 k0 k1 k2 k3
        go_wp2
        go_ret2
        rw [HR3.out]
        exact ⟨none, 0, rfl, World.ownsRow_nil _ _ _ _, HBE.out⟩
      | some y =>
        have hnr : nrW nx T i n = some (fshW (some y)) := hnr
        obtain ⟨s1, s2, s3, s4⟩ := HSP.out _ hnr
        have hft2 := hft y rfl
        generalize fshW (some y) = u at HFR hnr s1 s2 s3 s4 hft2
        have HFR2 : Hid (Calls Try.prog 42 #[.agg #[.int .i64 i, .int .i64 st, .slice A n c, .slice B n d], .int .i64 T.pos, .slice AT n cT] wr fun e w' => ∃ A' c', e = .returned (.tuple #[.slice A' u.length c', .int .i64 (fshT nx (some y)), .bool true]) ∧ Owned w' wr.heap.size (.slice A' u.length c') u ∧ Below wr.heap.size wr w') := HFR
        rw [hft2] at HFR2
        have HTR2 := Lib.hid (show trr nx i n l2 (T.fol nx u) (out ++ u) = r by
          have h1 := HTR.out
          rw [trr, hnr] at h1
          exact h1)
        have HWD := Lib.hid s2
        clear hnr hft hft2 s2 HFR
        go_wp2_with fail
        refine HFR2.out.mono ?_
        rintro e w5 ⟨A5, c5, rfl, hO5, b5⟩
        have HO5 := Lib.hid hO5
        have HOO := Lib.hid (HO.out.kept b5)
        have HT5 := Lib.hid (HT.out.kept b5)
        have HB5 := Lib.hid (HB.out.trans (b5.mono hzb))
        have hz5 := b5.size
        have hw1 : IntKind.i64.wrap ((out.length : Int) + (u.length : Int)) = ((out.length + u.length : Nat) : Int) := by
          rw [← Int.natCast_add]; exact IntWalk.i64_in _ (by omega)
        have hd1 : decide ((1024 : Int) < ((out.length + u.length : Nat) : Int)) = false := decide_eq_false (by omega)
        clear hO5 b5 k0 k1 k2 k3
        go_wp2
        clear hw1 hd1
        go_loopw [9, 14] (fun v9 v14 wq => ∃ k : Nat, k ≤ u.length ∧ v14 = .int .i64 k ∧ v9 = .int .i64 (T.fol nx (u.take k)).pos ∧ Tkn wq w1.heap.size (.slice AT n cT) n i gs (T.fol nx (u.take k)).tk ∧ KeptT 3 w5 wq ∧ Below w1.heap.size w5 wq) (fun _ v14 _ => u.length - (intOf v14).toNat)
        case atStart => exact ⟨0, Nat.zero_le _, rfl, rfl, HT5.out, KeptT.refl _ _, Below.refl _ _⟩
        case round =>
          obtain ⟨k, hk, rfl, rfl, hT, hkt, hb⟩ := hrel
          have HTk := Lib.hid hT
          have HKT := Lib.hid hkt
          have HBk := Lib.hid (HB5.out.trans hb)
          have HBk2 := Lib.hid hb
          obtain ⟨k0, k1, k2, k3, _⟩ := (HBX.out wr HBk.out).cells
          clear hT hkt hb
          by_cases hlt : k < u.length
          · have hnx := Tk.fol_take nx T u hlt
            obtain ⟨gU, oU, eU, hgU, hcU⟩ := ((HO5.out.keptT HKT.out).ints (by omega)).at_ hlt
            subst eU
            have hmem := HWD.out (u.getD k 0) (by rw [List.getD_eq_getElem?_getD, List.getElem?_eq_getElem (by omega)]; exact List.getElem_mem _)
            obtain ⟨y', hy⟩ : ∃ y' : Nat, u.getD k 0 = y' := ⟨(u.getD k 0).toNat, by omega⟩
            have hy2 := hy
            rw [hy] at hcU hmem hnx
            have HY := Lib.hid hy
            clear hy hy2
            rw [Int.toNat_natCast] at hnx
            have hyi : y' < i := by omega
            have hps : (T.fol nx (u.take k)).pos < n := by rw [Tk.fol_pos]; exact runS_lt hM _ _ hpos fun x hx => HWD.out x (List.mem_of_mem_take hx)
            have HNX := Lib.hid hnx
            have HTk2 := HTk.out
            generalize T.fol nx (u.take k) = T1 at HTk2 hps HNX
            clear HTk
            have HTk := Lib.hid HTk2
            clear HTk2
            obtain ⟨gT, cT', eT, xT⟩ := HTk.out.at_ hps
            cases eT
            obtain ⟨xv, fv⟩ := HTk.out.get hps hyi
            have hbw : Below w.heap.size w wr := HB1.out.trans (HBk.out.mono HB1.out.size)
            obtain ⟨gA, oA, A1, nA, cA, eA, hgA, hdA, hrA⟩ := hx.at_ hps
            have m1 := hrA.1
            have w1' := (hM.row _ hps).1
            obtain rfl : i = nA := by omega
            subst eA
            obtain ⟨hA2, iA2, eA2, lA, vA⟩ := hrA.at_ hyi
            subst eA2
            have rA : (nx.getD T1.pos []).getD y' 0 = ((nN nx T1.pos y' : Nat) : Int) := hM.nN_eq hps hyi
            rw [rA] at vA
            have HCA := Lib.hid (show ∀ W, Below w1.heap.size w1 W → W.cell? ⟨gA, oA + T1.pos, none⟩ = some (.slice (some ⟨hA2, iA2, none⟩) i cA) ∧ W.cell? ⟨hA2, iA2 + y', none⟩ = some (.int .i64 ((nN nx T1.pos y' : Nat) : Int)) from fun W h => by
              have h9 := HB1.out.trans (h.mono HB1.out.size)
              exact ⟨(h9.cell (p := ⟨gA, oA + T1.pos, none⟩) hgA).trans hdA, (h9.cell (p := ⟨hA2, iA2 + y', none⟩) lA).trans vA⟩)
            clear hdA vA
            obtain ⟨hdA, vA⟩ := HCA.out wr HBk.out
            have hq := hM.nN_lt hps hyi
            have hset := HTk.out.set hps y'
            have hktS : ∀ t, t ≠ 4 → KeptT t wr (wr.setCell ⟨gs T1.pos, y', none⟩ (.bool true)) := fun t ht => KeptT.off (HTk.out.blk _ hps).2 ht _
            have hbS : Below w1.heap.size wr (wr.setCell ⟨gs T1.pos, y', none⟩ (.bool true)) := (Below.refl _ wr).setCell (p := ⟨gs T1.pos, y', none⟩) (HTk.out.blk _ hps).1 (.bool true)
            rw [show (fun p x => T1.tk p x || (p == T1.pos && x == y')) = (T1.go nx y').tk from (Tk.go_tk nx T1 y').symm] at hset
            have hgp := Tk.go_pos nx T1 y'
            have HSET := Lib.hid hset
            have HKS := Lib.hid hktS
            have HBS := Lib.hid hbS
            clear hset hktS hbS m1 w1' hrA rA hmem hnx hgU hgA lA hbw
            go_wp2
            go_region
            clear k0 k1 k2 k3 hdA vA xT xv fv hcU
            have hT3 : Tkn ((wr.setCell ⟨gs T1.pos, y', none⟩ (.bool true)).drew) w1.heap.size (.slice (some ⟨gT, 0, none⟩) n cT) n i gs (T1.go nx y').tk := HSET.out.kept (below_drewN (Below.refl _ _) 1)
            have hk3 : KeptT 3 wr ((wr.setCell ⟨gs T1.pos, y', none⟩ (.bool true)).drew) := (HKS.out _ (by decide)).trans (KeptT.drewN _ _ 1)
            have hb3 : Below w1.heap.size wr ((wr.setCell ⟨gs T1.pos, y', none⟩ (.bool true)).drew) := below_drewN HBS.out 1
            generalize (wr.setCell ⟨gs T1.pos, y', none⟩ (.bool true)).drew = w6 at hT3 hk3 hb3 ⊢
            have HT6 := Lib.hid hT3
            have HK6 := Lib.hid (HKT.out.trans hk3)
            have HB6 := Lib.hid (HBk.out.trans hb3)
            have HB62 := Lib.hid (HBk2.out.trans hb3)
            obtain ⟨k0, k1, k2, k3, _⟩ := (HBX.out w6 HB6.out).cells
            obtain ⟨hdA, vA⟩ := HCA.out w6 HB6.out
            obtain ⟨gU', oU', eU', hgU', hcU⟩ := ((HO5.out.keptT HK6.out).ints (by omega)).at_ hlt
            cases eU'
            rw [HY.out] at hcU
            clear hT3 hk3 hb3 hgU'
            go_wp2
            go_quiet (fail)
            have HT7 := Lib.hid (HT6.out.kept (below_drewN (Below.refl w6.heap.size w6) nq))
            have HK7 := Lib.hid (HK6.out.trans (KeptT.drewN _ w6 nq))
            have HB7 := Lib.hid (below_drewN HB62.out nq)
            rw [← hgp]
            rw [← HNX.out] at HT7 ⊢
            clear k0 k1 k2 k3 hdA vA hcU
            go_wp2
            go_roundw
            case rel => exact ⟨k + 1, by omega, by go_num, rfl, HT7.out, HK7.out, HB7.out⟩
            case measure => simp [intOf]; omega
          · obtain rfl : k = u.length := by omega
            rw [List.take_of_length_le (Nat.le_refl _)] at HTk
            have hI5 := (HO5.out.keptT HKT.out).ints (by omega)
            have hO6 := HOO.out.keptT HKT.out
            have hsz := HBk.out.size
            obtain ⟨v7, w7, hr, hO7, hg7, hb7⟩ := run_append_ints wr w1.heap.size _ out u A5 u.length c5 hO6 hI5 hsz (by rw [List.length_append]; omega)
            obtain ⟨A9, c9, rfl⟩ := hO7.form
            rw [List.length_append] at hr hO7
            have hT7 := HTk.out.kept (Below.refl _ wr)
            have hT8 : Tkn w7 w1.heap.size (.slice AT n cT) n i gs (T.fol nx u).tk := HTk.out.keptT (KeptT.grown hg7 hO6 (by decide)) (KeptT.grown hg7 hO6 (by decide))
            have HT8 := Lib.hid hT8
            have HO8 := Lib.hid hO7
            have HB8 := Lib.hid (HBk.out.trans hb7)
            have hpos8 : (T.fol nx u).pos < n := by rw [Tk.fol_pos]; exact runS_lt hM u _ hpos HWD.out
            have hol8 : out.length + u.length ≤ (Z - l2) * 12 := by omega
            clear hI5 hO6 hO7 hg7 hb7 hT7 hT8 k0 k1 k2 k3
            go_wp2_with (at_builtin; refine Lib.wpList_append_run _ rfl _ _ _ _ rfl _ _ rfl rfl _ _ hr ?_)
            clear hr
            go_wp2
            go_roundw
            case rel => exact ⟨l2, T.fol nx u, out ++ u, A9, c9, by go_num, rfl, by rw [List.length_append], by omega, hpos8, by rw [List.length_append]; exact hol8, HTR2.out, by rw [List.length_append]; exact HO8.out, HT8.out, HB8.out⟩
            case measure => simp [intOf]
    · obtain rfl : left = 0 := by omega
      have hl : out.length ≤ 1024 := by omega
      have HR2 := Lib.hid (show R = (some out, 0) by
        have h1 := HTR.out
        rw [trr] at h1
        rw [HR.out, ← h1, touF, if_neg (by omega)])
      have HBE := Lib.hid (HB1.out.trans (HB.out.mono HB1.out.size))
      clear k0 k1 k2 k3
      go_wp2
      go_ret2
      rw [HR2.out]
      exact ⟨A8, c8, rfl, HO.out.lower HB1.out.size, HBE.out⟩

set_option maxHeartbeats 4000000 in
theorem rtour (i st : Int) (A B : Option Addr) (n c m d : Nat) (nx ot : List (List Int)) (w : World) (hx : Lists w A n nx) (ho : Lists w B m ot) (hn12 : n ≤ 12) (hi6 : i ≤ 6) :
    Calls Try.prog 22 #[.agg #[.int .i64 i, .int .i64 st, .slice A n c, .slice B m d]] w fun e w' => ∃ A1 c1, e = .returned (.tuple #[.slice A1 ((tourR i st nx ot).1.getD []).length c1, .int .i64 (tourR i st nx ot).2]) ∧
      Owned w' w.heap.size (.slice A1 ((tourR i st nx ot).1.getD []).length c1) ((tourR i st nx ot).1.getD []) ∧ Below w.heap.size w w' := by
  by_cases hv : vld i st nx ot = 0
  · obtain ⟨i', st', n', rfl, rfl, hM⟩ := vld_zero hv
    have e1 := hx.1
    have e2 := ho.1
    have e3 := hM.nxl
    have e4 := hM.otl
    obtain rfl : n = n' := by omega
    obtain rfl : n = m := by omega
    exact rtour_ok i' st' n A B c d nx ot w hx ho hM hn12 (by omega)
  · have hb0 := alloc_below w (.cells #[.int .i64 i, .int .i64 st, .slice A n c, .slice B m d] 24)
    have hra := racc_bad i st A B n c m d nx ot _ (hx.below hb0) (ho.below hb0) hv
    have hT : tourR i st nx ot = (none, vld i st nx ot) := by unfold tourR; rw [if_neg hv]
    rw [hT]
    generalize vld i st nx ot = E at hv hra ⊢
    have HRA := Lib.hid hra
    have hne : (E != 0) = true := by simpa using hv
    clear hra hT hv
    go_enter Try.func22, Try.ntmps22
    go_wp2_with fail
    refine HRA.out.mono ?_
    rintro e w1 ⟨rfl, b1⟩
    go_wp2
    go_ret2
    exact ⟨none, 0, rfl, World.ownsRow_nil _ _ _ _, bt hb0 b1⟩
theorem rtourq {i : Int} {n : Nat} (hn12 : n ≤ 12) (hi6 : i ≤ 6) (st : Int) (A B : Option Addr) (c m d : Nat) (nx ot : List (List Int)) (w : World) (hx : Lists w A n nx) (ho : Lists w B m ot) :
    Calls Try.prog 22 #[.agg #[.int .i64 i, .int .i64 st, .slice A n c, .slice B m d]] w fun e w' => ∃ A1 c1, e = .returned (.tuple #[.slice A1 ((tourR i st nx ot).1.getD []).length c1, .int .i64 (tourR i st nx ot).2]) ∧
      Owned w' w.heap.size (.slice A1 ((tourR i st nx ot).1.getD []).length c1) ((tourR i st nx ot).1.getD []) ∧ Below w.heap.size w w' := rtour i st A B n c m d nx ot w hx ho hn12 hi6
end Go.Proofs.Ytedcdpmflcegbaa
end

section
/- Counting visited states and taken transitions. -/
namespace Go.Proofs.Ytedcdpmflcegbaa

theorem nodup_len {α : Type} [DecidableEq α] {a b : List α} (ha : a.Nodup) (hb : b.Nodup) (h : ∀ x, x ∈ a ↔ x ∈ b) : a.length = b.length :=
  ((List.perm_ext_iff_of_nodup ha hb).2 h).length_eq
theorem nodup_le {α : Type} [DecidableEq α] : ∀ {a b : List α}, a.Nodup → (∀ x, x ∈ a → x ∈ b) → a.length ≤ b.length
  | [], _, _, _ => by simp
  | x :: a, b, ha, h => by
    rw [List.nodup_cons] at ha
    have h1 : ∀ y, y ∈ a → y ∈ b.erase x := fun y hy => by
      have : y ≠ x := fun e => ha.1 (e ▸ hy)
      exact (List.mem_erase_of_ne this).2 (h y (List.mem_cons_of_mem _ hy))
    have h2 := nodup_le ha.2 h1
    have h3 := h x (List.mem_cons_self ..)
    rw [List.length_erase_of_mem h3] at h2
    have h4 := List.length_pos_of_mem h3
    rw [List.length_cons]
    omega
/-- What is counted is what holds. -/
structure Cnt (T : Tk) : Prop where
  v : ∃ vl : List Nat, vl.Nodup ∧ vl.length = T.ns ∧ ∀ p, p ∈ vl ↔ T.vis p = true
  t : ∃ tl : List (Nat × Nat), tl.Nodup ∧ tl.length = T.nt ∧ ∀ p x, (p, x) ∈ tl ↔ T.tk p x = true
theorem Cnt.zero (s : Nat) : Cnt (Tk.zero s) := ⟨⟨[], List.nodup_nil, rfl, fun p => by simp [Tk.zero]⟩, ⟨[], List.nodup_nil, rfl, fun p x => by simp [Tk.zero]⟩⟩
theorem Cnt.vst {T : Tk} (h : Cnt T) : Cnt T.vst := by
  unfold Tk.vst
  by_cases hv : T.vis T.pos = true
  · rw [if_pos hv]; exact h
  · rw [if_neg hv]
    refine ⟨?_, h.t⟩
    obtain ⟨vl, h1, h2, h3⟩ := h.v
    refine ⟨T.pos :: vl, List.nodup_cons.2 ⟨fun h9 => hv ((h3 _).1 h9), h1⟩, by rw [List.length_cons, h2], fun p => ?_⟩
    rw [List.mem_cons, h3]
    show p = T.pos ∨ T.vis p = true ↔ (T.vis p || p == T.pos) = true
    rw [Bool.or_eq_true, beq_iff_eq]
    exact Or.comm
theorem Cnt.mrk {T : Tk} (h : Cnt T) (x : Nat) : Cnt (T.mrk x) := by
  unfold Tk.mrk
  by_cases hv : T.tk T.pos x = true
  · rw [if_pos hv]; exact h
  · rw [if_neg hv]
    refine ⟨h.v, ?_⟩
    obtain ⟨tl, h1, h2, h3⟩ := h.t
    refine ⟨(T.pos, x) :: tl, List.nodup_cons.2 ⟨fun h9 => hv ((h3 _ _).1 h9), h1⟩, by rw [List.length_cons, h2], fun p y => ?_⟩
    rw [List.mem_cons, h3]
    show (p, y) = (T.pos, x) ∨ T.tk p y = true ↔ (T.tk p y || (p == T.pos && y == x)) = true
    rw [Bool.or_eq_true, Bool.and_eq_true, beq_iff_eq, beq_iff_eq, Prod.mk.injEq]
    exact Or.comm
theorem Cnt.to {T : Tk} (h : Cnt T) (s : Nat) : Cnt (T.to s) := ⟨h.v, h.t⟩
theorem Cnt.fol {nx : List (List Int)} : ∀ (u : List Int) {T : Tk}, Cnt T → Cnt (T.fol nx u)
  | [], _, h => h
  | _ :: u, _, h => Cnt.fol u ((h.mrk _).to _).vst
theorem Cnt.cov {nx : List (List Int)} {st : Nat} : ∀ (ws : List (List Int)) {T : Tk}, Cnt T → Cnt (covT nx st T ws)
  | [], _, h => h
  | u :: l, _, h => Cnt.cov l (Cnt.fol u (h.to st).vst)
/-- What holds goes on to hold. -/
def Tle (T U : Tk) : Prop := (∀ p, T.vis p = true → U.vis p = true) ∧ ∀ p x, T.tk p x = true → U.tk p x = true
theorem Tle.refl (T : Tk) : Tle T T := ⟨fun _ h => h, fun _ _ h => h⟩
theorem Tle.trans {T U V : Tk} (h : Tle T U) (k : Tle U V) : Tle T V := ⟨fun p h1 => k.1 p (h.1 p h1), fun p x h1 => k.2 p x (h.2 p x h1)⟩
theorem Tle.vst (T : Tk) : Tle T T.vst := by
  unfold Tk.vst
  split
  · exact Tle.refl T
  · exact ⟨fun p h => by show (T.vis p || p == T.pos) = true; rw [h]; rfl, fun _ _ h => h⟩
theorem Tle.mrk (T : Tk) (x : Nat) : Tle T (T.mrk x) := by
  unfold Tk.mrk
  split
  · exact Tle.refl T
  · exact ⟨fun _ h => h, fun p y h => by show (T.tk p y || _) = true; rw [h]; rfl⟩
theorem Tle.go (nx : List (List Int)) (T : Tk) (x : Nat) : Tle T (T.go nx x) := ((Tle.mrk T x).trans (U := T.mrk x) ⟨fun _ h => h, fun _ _ h => h⟩).trans (Tle.vst ((T.mrk x).to (nN nx T.pos x)))
theorem Tle.fol (nx : List (List Int)) : ∀ (u : List Int) (T : Tk), Tle T (T.fol nx u)
  | [], T => Tle.refl T
  | _ :: u, T => (Tle.go nx T _).trans (Tle.fol nx u _)
theorem Tle.step (nx : List (List Int)) (st : Nat) (u : List Int) (T : Tk) : Tle T (((T.to st).vst).fol nx u) := (Tle.vst (T.to st)).trans (Tle.fol nx u _)
theorem Tle.cov (nx : List (List Int)) (st : Nat) : ∀ (ws : List (List Int)) (T : Tk), Tle T (covT nx st T ws)
  | [], T => Tle.refl T
  | u :: l, T => (Tle.step nx st u T).trans (Tle.cov nx st l _)
theorem vst_pos_vis (T : Tk) : T.vst.vis T.pos = true := by
  unfold Tk.vst
  split
  · assumption
  · show (T.vis T.pos || T.pos == T.pos) = true
    simp
theorem mrk_pos_tk (T : Tk) (x : Nat) : (T.mrk x).tk T.pos x = true := by
  rw [Tk.mrk_tk]
  simp
/-- All is within the states of l. -/
structure Win (nx : List (List Int)) (i : Nat) (l : List Nat) (T : Tk) : Prop where
  pos : T.pos ∈ l
  vis : ∀ p, T.vis p = true → p ∈ l
  tk : ∀ p x, T.tk p x = true → p ∈ l ∧ x < i
  tv : ∀ p x, T.tk p x = true → T.vis (nN nx p x) = true
section
variable {nx : List (List Int)} {i : Nat} {l : List Nat}
theorem Win.go (hcl : ∀ p, p ∈ l → ∀ x, x < i → nN nx p x ∈ l) {T : Tk} (h : Win nx i l T) {x : Nat} (hx : x < i) : Win nx i l (T.go nx x) := by
  have hn := hcl _ h.pos x hx
  have hvis : ∀ p, (T.go nx x).vis p = true → T.vis p = true ∨ p = nN nx T.pos x := fun p hp => by
    unfold Tk.go at hp
    unfold Tk.vst at hp
    have hm : (T.mrk x).vis = T.vis := by unfold Tk.mrk; split <;> rfl
    split at hp
    · exact .inl (by rw [← hm]; exact hp)
    · have hp : ((T.mrk x).vis p || p == nN nx T.pos x) = true := hp
      rw [Bool.or_eq_true, beq_iff_eq, hm] at hp
      exact hp
  refine ⟨by rw [Tk.go_pos]; exact hn, fun p hp => ?_, fun p y hp => ?_, fun p y hp => ?_⟩
  · rcases hvis p hp with h1 | rfl
    · exact h.vis p h1
    · exact hn
  · rw [Tk.go_tk, Bool.or_eq_true, Bool.and_eq_true, beq_iff_eq, beq_iff_eq] at hp
    rcases hp with h1 | ⟨rfl, rfl⟩
    · exact h.tk p y h1
    · exact ⟨h.pos, hx⟩
  · rw [Tk.go_tk, Bool.or_eq_true, Bool.and_eq_true, beq_iff_eq, beq_iff_eq] at hp
    rcases hp with h1 | ⟨rfl, rfl⟩
    · exact (Tle.go nx T x).1 _ (h.tv p y h1)
    · exact vst_pos_vis ((T.mrk y).to (nN nx T.pos y))
theorem Win.fol (hcl : ∀ p, p ∈ l → ∀ x, x < i → nN nx p x ∈ l) : ∀ (u : List Int) {T : Tk}, Win nx i l T → Wd i u → Win nx i l (T.fol nx u)
  | [], _, h, _ => h
  | a :: u, T, h, hu => by
    obtain ⟨y, rfl, hy⟩ := hu.head
    exact Win.fol hcl u (T := T.go nx ((y : Int)).toNat) (by rw [Int.toNat_natCast]; exact h.go hcl hy) hu.tail
theorem Win.start {st : Nat} (hst : st ∈ l) {T : Tk} (h : Win nx i l T) : Win nx i l ((T.to st).vst) := by
  refine ⟨by rw [Tk.vst_pos]; exact hst, fun p hp => ?_, fun p y hp => ?_, fun p y hp => ?_⟩
  · unfold Tk.vst at hp
    split at hp
    · exact h.vis p hp
    · have hp : (T.vis p || p == st) = true := hp
      rw [Bool.or_eq_true, beq_iff_eq] at hp
      rcases hp with h1 | rfl
      · exact h.vis p h1
      · exact hst
  · rw [Tk.vst_tk] at hp; exact h.tk p y hp
  · rw [Tk.vst_tk] at hp
    exact (Tle.vst (T.to st)).1 _ (h.tv p y hp)
theorem Win.zero {s : Nat} (hs : s ∈ l) : Win nx i l (Tk.zero s) := ⟨hs, fun p h => by simp [Tk.zero] at h, fun p x h => by simp [Tk.zero] at h, fun p x h => by simp [Tk.zero] at h⟩
theorem Win.cov (hcl : ∀ p, p ∈ l → ∀ x, x < i → nN nx p x ∈ l) {st : Nat} (hst : st ∈ l) : ∀ (ws : List (List Int)) {T : Tk}, Win nx i l T → (∀ u, u ∈ ws → Wd i u) → Win nx i l (covT nx st T ws)
  | [], _, h, _ => h
  | u :: ws, _, h, hw => Win.cov hcl hst ws (Win.fol hcl u (h.start hst) (hw u (List.mem_cons_self ..))) fun v hv => hw v (List.mem_cons_of_mem _ hv)
end
/-- All transitions of the states l. -/
def prsL (i : Nat) (l : List Nat) : List (Nat × Nat) := l.flatMap fun p => (List.range i).map fun x => (p, x)
theorem mem_prsL {i : Nat} {l : List Nat} {p x : Nat} : (p, x) ∈ prsL i l ↔ p ∈ l ∧ x < i := by
  unfold prsL
  simp only [List.mem_flatMap, List.mem_map, List.mem_range, Prod.mk.injEq]
  constructor
  · rintro ⟨q, hq, y, hy, rfl, rfl⟩
    exact ⟨hq, hy⟩
  · rintro ⟨h1, h2⟩
    exact ⟨p, h1, x, h2, rfl, rfl⟩
theorem prsL_len (i : Nat) : ∀ l : List Nat, (prsL i l).length = l.length * i
  | [] => by simp [prsL]
  | p :: l => by
    have := prsL_len i l
    unfold prsL at this ⊢
    rw [List.flatMap_cons, List.length_append, this, List.length_map, List.length_range, List.length_cons, Nat.add_mul]; omega
theorem prsL_nodup (i : Nat) : ∀ {l : List Nat}, l.Nodup → (prsL i l).Nodup
  | [], _ => by simp [prsL]
  | p :: l, h => by
    rw [List.nodup_cons] at h
    have ih := prsL_nodup i h.2
    show ((List.range i).map (fun x => (p, x)) ++ prsL i l).Nodup
    rw [List.nodup_append]
    refine ⟨List.pairwise_map.2 (List.nodup_range.imp fun h1 e => h1 (Prod.mk.inj e).2), ih, fun a ha b hb e => ?_⟩
    obtain ⟨x, _, rfl⟩ := List.mem_map.1 ha
    subst e
    exact h.1 (mem_prsL.1 hb).1
/-- If all is visited and taken, and nothing else, then the numbers are those of the states and transitions. -/
theorem full_count {nx : List (List Int)} {i : Nat} {l : List Nat} (hl : l.Nodup) {T : Tk} (hC : Cnt T) (hW : Win nx i l T) (hv : ∀ p, p ∈ l → T.vis p = true) (ht : ∀ p, p ∈ l → ∀ x, x < i → T.tk p x = true) : T.ns = l.length ∧ T.nt = l.length * i := by
  obtain ⟨vl, v1, v2, v3⟩ := hC.v
  obtain ⟨tl, t1, t2, t3⟩ := hC.t
  refine ⟨by rw [← v2]; exact nodup_len v1 hl fun p => ⟨fun h => hW.vis p ((v3 p).1 h), fun h => (v3 p).2 (hv p h)⟩, ?_⟩
  rw [← t2, ← prsL_len i l]
  refine nodup_len t1 (prsL_nodup i hl) fun y => ?_
  obtain ⟨p, x⟩ := y
  rw [t3, mem_prsL]
  exact ⟨fun h => hW.tk p x h, fun h => ht p h.1 x h.2⟩
/-- If the number of taken transitions is that of all, then all are taken. -/
theorem all_taken {nx : List (List Int)} {i : Nat} {l : List Nat} {T : Tk} (hC : Cnt T) (hW : Win nx i l T) (hn : l.length * i ≤ T.nt) : ∀ p, p ∈ l → ∀ x, x < i → T.tk p x = true := fun p hp x hx => by
  obtain ⟨tl, t1, t2, t3⟩ := hC.t
  by_cases h : T.tk p x = true
  · exact h
  · have h1 : ((p, x) :: tl).Nodup := List.nodup_cons.2 ⟨fun h9 => h ((t3 _ _).1 h9), t1⟩
    have h2 := nodup_le h1 (b := prsL i l) fun y hy => by
      obtain ⟨q, z⟩ := y
      rcases List.mem_cons.1 hy with e | hy
      · rw [e]; exact mem_prsL.2 ⟨hp, hx⟩
      · exact mem_prsL.2 (hW.tk q z ((t3 _ _).1 hy))
    rw [List.length_cons, prsL_len, t2] at h2
    omega
theorem some_left {i : Nat} {l : List Nat} (hl : l.Nodup) {T : Tk} (hC : Cnt T) (hn : T.nt < l.length * i) : ∃ p x, p ∈ l ∧ x < i ∧ ¬ T.tk p x = true := by
  obtain ⟨tl, t1, t2, t3⟩ := hC.t
  by_cases h : ∃ p x, p ∈ l ∧ x < i ∧ ¬ T.tk p x = true
  · exact h
  · have h1 := nodup_le (prsL_nodup i hl) (b := tl) fun y hy => by
      obtain ⟨p, x⟩ := y
      obtain ⟨hp, hx⟩ := mem_prsL.1 hy
      refine (t3 p x).2 ?_
      by_cases h2 : T.tk p x = true
      · exact h2
      · exact absurd ⟨p, x, hp, hx, h2⟩ h
    rw [prsL_len, t2] at h1
    omega
end Go.Proofs.Ytedcdpmflcegbaa
end

section
/- Lengths of what cover answers. -/
namespace Go.Proofs.Ytedcdpmflcegbaa

theorem accR_cases (i st : Int) (nx ot : List (List Int)) : (accR i st nx ot).1 = [] ∨ ∃ i' n s : Nat, n ≤ 128 ∧ i' ≤ 64 ∧ i = (i' : Int) ∧ (accR i st nx ot).1 = exs nx i' n s ∧ Ens n 1 s 0 (exs nx i' n s) := by
  by_cases hv : vld i st nx ot = 0
  · obtain ⟨i', st', n', rfl, rfl, hM⟩ := vld_zero hv
    exact .inr ⟨i', n', st', hM.n2, hM.i2, rfl, by rw [accR_ok hM], exs_ens hM hM.st⟩
  · exact .inl (by rw [accR_bad hv])
theorem accR_len (i st : Int) (nx ot : List (List Int)) : (accR i st nx ot).1.length ≤ 128 := by
  rcases accR_cases i st nx ot with h | ⟨i', n, s, hn, _, _, e, hE⟩
  · rw [h]; simp
  · rw [e]; have := hE.len; omega
theorem accR_row (i st : Int) (nx ot : List (List Int)) : ∀ x, x ∈ wsL (accR i st nx ot).1 → x.length ≤ 128 := fun x hx => by
  rcases accR_cases i st nx ot with h | ⟨i', n, s, hn, _, _, e, hE⟩
  · rw [h] at hx; simp [wsL] at hx
  · rw [e] at hx; have := hE.len; have := wsL_le hE x hx; omega
theorem trnR_len (i st : Int) (nx ot : List (List Int)) : (trnR i st nx ot).length ≤ 8192 := by
  unfold trnR
  rw [trW_len, wsL_len]
  rcases accR_cases i st nx ot with h | ⟨i', n, s, hn, hi, rfl, e, hE⟩
  · rw [h]; simp
  · have h1 := accR_len (i' : Int) st nx ot
    rw [Int.toNat_natCast]
    exact Nat.mul_le_mul h1 hi
theorem trnR_row (i st : Int) (nx ot : List (List Int)) : ∀ x, x ∈ trnR i st nx ot → x.length ≤ 129 := fun x hx => by
  unfold trnR trW at hx
  obtain ⟨u, hu, hx⟩ := List.mem_flatMap.1 hx
  obtain ⟨k, _, rfl⟩ := List.mem_map.1 hx
  have := accR_row i st nx ot u hu
  rw [List.length_append]
  show _ + 1 ≤ _
  omega
theorem pthR_len (i st : Int) (nx ot : List (List Int)) (s t : Int) : ((pthR i st nx ot s t).1.getD []).length ≤ 16384 := by
  unfold pthR
  by_cases hv : vld i st nx ot = 0
  · rw [if_pos hv]
    obtain ⟨i', st', n', rfl, rfl, hM⟩ := vld_zero hv
    split
    · rename_i h
      obtain ⟨s', rfl⟩ : ∃ s' : Nat, s = s' := ⟨s.toNat, by omega⟩
      have hn := hM.nxl
      have hn2 := hM.n2
      rw [hn, Int.toNat_natCast, Int.toNat_natCast]
      have hE := exs_ens (i := i') hM (show s' < n' by omega)
      show ((pthW (exs nx i' n' s') t).getD []).length ≤ _
      unfold pthW
      cases hf : fi (psL (exs nx i' n' s')) t with
      | none => simp
      | some k =>
        have hk := (fi_some hf).1
        rw [psL_len] at hk
        have h1 := hE.wl k hk
        have h2 := hE.len
        show (((exs nx i' n' s').getD k Ent.zero).w).length ≤ _
        omega
    · simp
  · rw [if_neg hv]; simp
theorem tourR_len (i st : Int) (nx ot : List (List Int)) : ((tourR i st nx ot).1.getD []).length ≤ 1024 := by
  unfold tourR
  split
  · cases trr nx i.toNat nx.length ((exs nx i.toNat nx.length st.toNat).length * i.toNat) (Tk.zero st.toNat) [] with
    | none => simp [touF]
    | some u =>
      by_cases h : 1024 < u.length
      · rw [touF, if_pos h]; simp
      · rw [touF, if_neg h]
        show u.length ≤ _
        omega
  · simp
end Go.Proofs.Ytedcdpmflcegbaa
end
