/- Lemmas of the proofs of this seat, of the parts Cvaq, Ordp, Swp, Lexp, Cvar, Plst, Less, Cptp, Arrw, Arrp, Eqli, Cptw, Growh. Conditions: none. -/
import Derived.Test.YtedcdpmflcegbaaQae
import Derived.Test.YtedcdpmflcegbaaQaa
import Derived.Test.YtedcdpmflcegbaaQab
import Derived.Test.YtedcdpmflcegbaaQad
import Derived.Test.YtedcdpmflcegbaaQac
import Derived.Shelf.Abstract
import Derived.Test.YtedcdpmflcegbaaShelfs
import Derived.Lib.OwnBridge
import Derived.Test.YtedcdpmflcegbaaProg
import Derived.WalkSpells
import Derived.WalkLawsBesides
import Derived.Outline
import Derived.BigQuiet
import Derived.Deep.QuietTactic
import Derived.Deep.LoopGhost
import Derived.Lib.AppendZeros
section
/- What the words of the transitions, and the tour, visit and take. -/
namespace Go.Proofs.Ytedcdpmflcegbaa

theorem Wd.syms {i : Nat} {u : List Int} (h : Wd i u) : Syms u i u.length := fun m hm => by
  have := h (u.getD m 0) (by rw [List.getD_eq_getElem?_getD, List.getElem?_eq_getElem hm]; exact List.getElem_mem _)
  omega
theorem chk_wd {i : Nat} {u : List Int} (h : Wd i u) (h1 : 1 ≤ i) (h2 : i ≤ 64) (hl : u.length ≤ 1024) : chk u i = 0 := chk_ok (by omega) (by omega) h.syms
/-- The states that are found. -/
def exl (E : List Ent) : List Nat := E.map Ent.p
section
variable {nx ot : List (List Int)} {i st n : Nat}
theorem mem_exl {E : List Ent} {p : Nat} : p ∈ exl E ↔ ∃ k, k < E.length ∧ (E.getD k Ent.zero).p = p := by
  unfold exl
  rw [List.mem_map]
  constructor
  · rintro ⟨e, he, rfl⟩
    obtain ⟨k, hk, rfl⟩ := List.mem_iff_getElem.1 he
    exact ⟨k, hk, by rw [← getDE_get hk]⟩
  · rintro ⟨k, hk, rfl⟩
    exact ⟨_, getDE_mem hk, rfl⟩
theorem exl_len (E : List Ent) : (exl E).length = E.length := by simp [exl]
theorem exl_nodup {s : Nat} {E : List Ent} (hE : Ens n 1 s 0 E) : (exl E).Nodup := by
  unfold exl List.Nodup
  rw [List.pairwise_map]
  have h := hE.nd
  unfold List.Nodup at h
  rw [List.pairwise_map] at h
  refine List.Pairwise.imp_of_mem (fun {a b} ha hb h1 e => h1 ?_) h
  have qa := (hE.lt a ha).2
  have qb := (hE.lt b hb).2
  exact Prod.ext e (by show a.q = b.q; omega)
theorem exl_cl (hM : Mok i st n nx ot) {s : Nat} (hs : s < n) : ∀ p, p ∈ exl (exs nx i n s) → ∀ x, x < i → nN nx p x ∈ exl (exs nx i n s) := fun p hp x hx => by
  obtain ⟨k, hk, rfl⟩ := mem_exl.1 hp
  have hO := exs_ord (i := i) hM hs
  generalize exs nx i n s = E at hk hO
  have hlt : k * i + x < E.length * i := by
    have : (k + 1) * i ≤ E.length * i := Nat.mul_le_mul_right i hk
    rw [Nat.succ_mul] at this
    omega
  obtain ⟨c, hc, c1, _⟩ := hO.cl k x hk hx hlt
  exact mem_exl.2 ⟨c, hc, c1⟩
theorem exl_st (hM : Mok i st n nx ot) {s : Nat} (hs : s < n) : s ∈ exl (exs nx i n s) := by
  have hE := exs_ens (i := i) hM hs
  exact mem_exl.2 ⟨0, hE.ne, hE.z.1⟩
theorem covT_zero (nx : List (List Int)) (st : Nat) (ws : List (List Int)) : (covT nx st (Tk.zero 0) ws).ns = (covT nx st (Tk.zero st) ws).ns ∧ (covT nx st (Tk.zero 0) ws).nt = (covT nx st (Tk.zero st) ws).nt := by
  cases ws with
  | nil => exact ⟨rfl, rfl⟩
  | cons u l => exact ⟨rfl, rfl⟩
theorem cov_mem (nx : List (List Int)) (st : Nat) {u : List Int} : ∀ {ws : List (List Int)} (T : Tk), u ∈ ws → ∃ U : Tk, Tle (((U.to st).vst).fol nx u) (covT nx st T ws)
  | [], _, h => absurd h (by simp)
  | v :: ws, T, h => by
    rcases List.mem_cons.1 h with rfl | h
    · exact ⟨T, Tle.cov nx st ws _⟩
    · exact cov_mem nx st (ws := ws) (((T.to st).vst).fol nx v) h
theorem fol_vis_end (nx : List (List Int)) : ∀ (u : List Int) {T : Tk}, T.vis T.pos = true → (T.fol nx u).vis (T.fol nx u).pos = true
  | [], _, h => h
  | a :: u, T, _ => fol_vis_end nx u (T := T.go nx a.toNat) (by
    rw [Tk.go_pos]
    exact vst_pos_vis ((T.mrk a.toNat).to (nN nx T.pos a.toNat)))
/-- A word from the start with one more symbol visits its state and takes its transition. -/
theorem fol_ext (nx : List (List Int)) (U : Tk) (st : Nat) (w : List Int) (x : Nat) : (((U.to st).vst).fol nx (w ++ [(x : Int)])).vis (runS nx st w) = true ∧ (((U.to st).vst).fol nx (w ++ [(x : Int)])).tk (runS nx st w) x = true := by
  have h1 := fol_vis_end nx w (T := (U.to st).vst) (by rw [Tk.vst_pos]; exact vst_pos_vis (U.to st))
  have h2 : (((U.to st).vst).fol nx w).pos = runS nx st w := by rw [Tk.fol_pos, Tk.vst_pos]; rfl
  rw [Tk.fol_snoc, Int.toNat_natCast]
  rw [h2] at h1
  generalize ((U.to st).vst).fol nx w = T at h1 h2 ⊢
  refine ⟨(Tle.go nx T x).1 _ h1, ?_⟩
  rw [Tk.go_tk, h2]
  simp
theorem mem_trW {i : Nat} {us : List (List Int)} {v : List Int} : v ∈ trW i us ↔ ∃ u x, u ∈ us ∧ x < i ∧ v = u ++ [(x : Int)] := by
  unfold trW
  simp only [List.mem_flatMap, List.mem_map, List.mem_range]
  constructor
  · rintro ⟨u, hu, x, hx, rfl⟩
    exact ⟨u, x, hu, hx, rfl⟩
  · rintro ⟨u, x, hu, hx, rfl⟩
    exact ⟨u, hu, x, hx, rfl⟩
theorem mem_wsL {E : List Ent} {v : List Int} : v ∈ wsL E ↔ ∃ k, k < E.length ∧ (E.getD k Ent.zero).w = v := by
  unfold wsL
  rw [List.mem_map]
  constructor
  · rintro ⟨e, he, rfl⟩
    obtain ⟨k, hk, rfl⟩ := List.mem_iff_getElem.1 he
    exact ⟨k, hk, by rw [← getDE_get hk]⟩
  · rintro ⟨k, hk, rfl⟩
    exact ⟨_, getDE_mem hk, rfl⟩
theorem cov_trans (hM : Mok i st n nx ot) : covR i st nx ot (trnR i st nx ot) = (((exs nx i n st).length : Int), (((exs nx i n st).length * i : Nat) : Int), 0) := by
  have hst := hM.st
  have hE := exs_ens (i := i) hM hst
  have hcl := exl_cl (i := i) hM hst
  have hs := exl_st (i := i) hM hst
  have hrun := fun k (hk : k < (exs nx i n st).length) => exs_run hM hst hk
  have htr : trnR (i : Int) (st : Int) nx ot = trW i (wsL (exs nx i n st)) := by unfold trnR; rw [accR_ok hM, Int.toNat_natCast]
  rw [htr]
  have hwd : ∀ v, v ∈ trW i (wsL (exs nx i n st)) → Wd i v ∧ v.length ≤ 1024 := fun v hv => by
    obtain ⟨u, x, hu, hx, rfl⟩ := mem_trW.1 hv
    obtain ⟨k, hk, rfl⟩ := mem_wsL.1 hu
    refine ⟨(hrun k hk).1.app (Wd.one hx), ?_⟩
    have h1 := hE.wl k hk
    have h2 := hE.len
    have h3 := hM.n2
    rw [List.length_append]
    show _ + 1 ≤ _
    omega
  unfold covR
  rw [if_pos hM.vld, if_pos (fstC_zero fun v hv => chk_wd (hwd v hv).1 hM.i1 hM.i2 (hwd v hv).2), Int.toNat_natCast]
  obtain ⟨z1, z2⟩ := covT_zero nx st (trW i (wsL (exs nx i n st)))
  rw [z1, z2]
  have hC := Cnt.cov (nx := nx) (st := st) (trW i (wsL (exs nx i n st))) (Cnt.zero st)
  have hW := Win.cov hcl hs (trW i (wsL (exs nx i n st))) (Win.zero (nx := nx) (i := i) hs) fun v hv => (hwd v hv).1
  have key : ∀ p, p ∈ exl (exs nx i n st) → ∀ x, x < i → (covT nx st (Tk.zero st) (trW i (wsL (exs nx i n st)))).vis p = true ∧ (covT nx st (Tk.zero st) (trW i (wsL (exs nx i n st)))).tk p x = true := fun p hp x hx => by
    obtain ⟨k, hk, rfl⟩ := mem_exl.1 hp
    obtain ⟨U, hU⟩ := cov_mem nx st (Tk.zero st) (mem_trW.2 ⟨_, x, mem_wsL.2 ⟨k, hk, rfl⟩, hx, rfl⟩ : ((exs nx i n st).getD k Ent.zero).w ++ [(x : Int)] ∈ trW i (wsL (exs nx i n st)))
    have h1 := fol_ext nx U st ((exs nx i n st).getD k Ent.zero).w x
    rw [(hrun k hk).2] at h1
    exact ⟨hU.1 _ h1.1, hU.2 _ _ h1.2⟩
  obtain ⟨c1, c2⟩ := full_count (exl_nodup hE) hC hW (fun p hp => (key p hp 0 hM.i1).1) (fun p hp x hx => (key p hp x hx).2)
  rw [c1, c2, exl_len]
theorem trr_some (hM : Mok i st n nx ot) : ∀ (k : Nat) (T : Tk) (out t : List Int), T.pos < n → trr nx i n k T out = some t → ∃ u, t = out ++ u ∧ Wd i u ∧ (T.fol nx u).nt = T.nt + k ∧ k ≤ u.length
  | 0, T, out, t, _, h => ⟨[], by simp [trr] at h; simp [h], Wd.nil i, rfl, Nat.le_refl _⟩
  | k + 1, T, out, t, hp, h => by
    rw [trr] at h
    cases hr : nrW nx T i n with
    | none => rw [hr] at h; exact absurd h (by simp)
    | some u =>
      rw [hr] at h
      obtain ⟨s1, s2, s3, s4⟩ := nrW_spec hM hp hr
      obtain ⟨v, e1, e2, e3, e4⟩ := trr_some hM k (T.fol nx u) (out ++ u) t (by rw [Tk.fol_pos]; exact runS_lt hM u _ hp s2) h
      refine ⟨u ++ v, by rw [e1, List.append_assoc], s2.app e2, by rw [Tk.fol_app, e3, s1]; omega, by rw [List.length_append]; omega⟩
theorem trr_none (hM : Mok i st n nx ot) : ∀ (k : Nat) (T : Tk) (out : List Int), T.pos < n → trr nx i n k T out = none → ∃ u, Wd i u ∧ nrW nx (T.fol nx u) i n = none ∧ (T.fol nx u).nt < T.nt + k
  | 0, T, out, _, h => absurd h (by simp [trr])
  | k + 1, T, out, hp, h => by
    rw [trr] at h
    cases hr : nrW nx T i n with
    | none => exact ⟨[], Wd.nil i, hr, by show T.nt < _; omega⟩
    | some u =>
      rw [hr] at h
      obtain ⟨s1, s2, s3, s4⟩ := nrW_spec hM hp hr
      obtain ⟨v, e1, e2, e3⟩ := trr_none hM k (T.fol nx u) (out ++ u) (by rw [Tk.fol_pos]; exact runS_lt hM u _ hp s2) h
      refine ⟨u ++ v, s2.app e1, by rw [Tk.fol_app]; exact e2, by rw [Tk.fol_app]; omega⟩
theorem fol_nt (nx : List (List Int)) : ∀ (u : List Int) {T U : Tk}, T.pos = U.pos → T.tk = U.tk → T.nt = U.nt → (T.fol nx u).nt = (U.fol nx u).nt
  | [], _, _, _, _, h => h
  | a :: u, T, U, h1, h2, h3 => by
    show ((T.go nx a.toNat).fol nx u).nt = ((U.go nx a.toNat).fol nx u).nt
    refine fol_nt nx u (by rw [Tk.go_pos, Tk.go_pos, h1]) (by rw [Tk.go_tk, Tk.go_tk, h1, h2]) ?_
    unfold Tk.go
    rw [(Tk.vst_n _).2.2, (Tk.vst_n _).2.2]
    show (T.mrk a.toNat).nt = (U.mrk a.toNat).nt
    unfold Tk.mrk
    rw [h1, h2]
    split
    · exact h3
    · show T.nt + 1 = U.nt + 1
      rw [h3]
theorem tour_some (hM : Mok i st n nx ot) {t : List Int} (h : tourR i st nx ot = (some t, 0)) :
    covR i st nx ot [t] = (((exs nx i n st).length : Int), (((exs nx i n st).length * i : Nat) : Int), 0) ∧ (exs nx i n st).length * i ≤ t.length := by
  have hst := hM.st
  have hE := exs_ens (i := i) hM hst
  have hcl := exl_cl (i := i) hM hst
  have hs := exl_st (i := i) hM hst
  have hO := exs_ord (i := i) hM hst
  unfold tourR at h
  rw [if_pos hM.vld, hM.nxl, Int.toNat_natCast, Int.toNat_natCast] at h
  have hl : t.length ≤ 1024 ∧ trr nx i n ((exs nx i n st).length * i) (Tk.zero st) [] = some t := by
    cases hr : trr nx i n ((exs nx i n st).length * i) (Tk.zero st) [] with
    | none => rw [hr] at h; simp [touF] at h
    | some u =>
      rw [hr] at h
      by_cases h9 : 1024 < u.length
      · rw [touF, if_pos h9] at h; simp at h
      · rw [touF, if_neg h9] at h
        have : u = t := by simpa using h
        rw [← this]
        exact ⟨by omega, rfl⟩
  obtain ⟨hl, hr⟩ := hl
  obtain ⟨u, e1, e2, e3, e4⟩ := trr_some hM _ _ _ _ (show (Tk.zero st).pos < n from hst) hr
  obtain rfl : t = u := e1
  refine ⟨?_, e4⟩
  unfold covR
  rw [if_pos hM.vld, if_pos (fstC_zero fun v hv => by
    obtain rfl : v = t := by simpa using hv
    exact chk_wd e2 hM.i1 hM.i2 hl), Int.toNat_natCast]
  have hz : covT nx st (Tk.zero 0) [t] = ((Tk.zero st).vst).fol nx t := rfl
  rw [hz]
  have hC : Cnt (((Tk.zero st).vst).fol nx t) := Cnt.fol t (Cnt.zero st).vst
  have hW : Win nx i (exl (exs nx i n st)) (((Tk.zero st).vst).fol nx t) := Win.fol hcl t (Win.start (T := Tk.zero st) hs (Win.zero hs)) e2
  have hnt : (((Tk.zero st).vst).fol nx t).nt = (exs nx i n st).length * i := by
    have h1 := fol_nt nx t (T := (Tk.zero st).vst) (U := Tk.zero st) (Tk.vst_pos _) (Tk.vst_tk _) (Tk.vst_n _).2.2
    rw [h1, e3]
    show 0 + _ = _
    omega
  have hall := all_taken hC hW (by rw [exl_len, hnt]; exact Nat.le_refl _)
  have hvis : ∀ p, p ∈ exl (exs nx i n st) → (((Tk.zero st).vst).fol nx t).vis p = true := fun p hp => by
    obtain ⟨k, hk, rfl⟩ := mem_exl.1 hp
    by_cases h0 : k = 0
    · subst h0
      rw [hO.zp.1]
      exact (Tle.fol nx t _).1 _ (vst_pos_vis (Tk.zero st))
    · obtain ⟨b1, b2⟩ := hO.bk k (by omega) hk
      obtain ⟨x1, _⟩ := hO.xs k (by omega) hk
      have r1 := (exs_run hM hst hk).2
      have r2 := (exs_run hM hst (show ((exs nx i n st).getD k Ent.zero).j < (exs nx i n st).length by omega)).2
      have h1 := hall _ (mem_exl.2 ⟨_, show ((exs nx i n st).getD k Ent.zero).j < (exs nx i n st).length by omega, rfl⟩) _ x1
      have h2 := hW.tv _ _ h1
      rw [b2, runS_app, r2] at r1
      have r3 : nN nx ((exs nx i n st).getD ((exs nx i n st).getD k Ent.zero).j Ent.zero).p ((exs nx i n st).getD k Ent.zero).x = ((exs nx i n st).getD k Ent.zero).p := r1
      rw [r3] at h2
      exact h2
  obtain ⟨c1, c2⟩ := full_count (exl_nodup hE) hC hW hvis hall
  rw [c1, c2, exl_len]
theorem tour_none (hM : Mok i st n nx ot) {o : Option (List Int)} (h : tourR i st nx ot = (o, 8)) :
    ∃ a b, a < (exs nx i n st).length ∧ b < (exs nx i n st).length ∧ pthR i st nx ot (((exs nx i n st).getD a Ent.zero).p : Int) (((exs nx i n st).getD b Ent.zero).p : Int) = (none, 0) := by
  have hst := hM.st
  have hE := exs_ens (i := i) hM hst
  have hcl := exl_cl (i := i) hM hst
  have hs := exl_st (i := i) hM hst
  unfold tourR at h
  rw [if_pos hM.vld, hM.nxl, Int.toNat_natCast, Int.toNat_natCast] at h
  have hr : trr nx i n ((exs nx i n st).length * i) (Tk.zero st) [] = none := by
    cases hr : trr nx i n ((exs nx i n st).length * i) (Tk.zero st) [] with
    | none => rfl
    | some u =>
      rw [hr] at h
      by_cases h9 : 1024 < u.length
      · rw [touF, if_pos h9] at h; simp at h
      · rw [touF, if_neg h9] at h; simp at h
  obtain ⟨u, e1, e2, e3⟩ := trr_none hM _ _ _ (show (Tk.zero st).pos < n from hst) hr
  have hC : Cnt ((Tk.zero st).fol nx u) := Cnt.fol u (Cnt.zero st)
  have hW : Win nx i (exl (exs nx i n st)) ((Tk.zero st).fol nx u) := Win.fol hcl u (Win.zero hs) e1
  have hpn : ((Tk.zero st).fol nx u).pos < n := by rw [Tk.fol_pos]; exact runS_lt hM u _ hst e1
  generalize (Tk.zero st).fol nx u = T at hC hW hpn e2 e3
  obtain ⟨q, x, hq, hx, hnt⟩ := some_left (exl_nodup hE) hC (by
    have h0 : (Tk.zero st).nt = 0 := rfl
    rw [h0, Nat.zero_add] at e3
    rw [exl_len]
    exact e3)
  obtain ⟨a, ha, ea⟩ := mem_exl.1 hW.pos
  obtain ⟨b, hb, eb⟩ := mem_exl.1 hq
  refine ⟨a, b, ha, hb, ?_⟩
  have hfr : frs (fun p x => !T.tk p x) i (exs nx i n T.pos) = none := by
    unfold nrW at e2
    cases hf : frs (fun p x => !T.tk p x) i (exs nx i n T.pos) with
    | none => rfl
    | some y => rw [hf] at e2; exact absurd e2 (by simp)
  have hno : fi (psL (exs nx i n T.pos)) (q : Int) = none := by
    refine fi_miss fun j hj e => ?_
    rw [psL_len] at hj
    rw [psL_at hj] at e
    have h1 := fH_none (frs_none hfr j hj) x hx
    rw [show ((exs nx i n T.pos).getD j Ent.zero).p = q by omega] at h1
    have : T.tk q x = true := by simpa using h1
    exact hnt this
  rw [ea, eb]
  have hqn : q < n := by rw [← eb]; exact (hE.lt _ (getDE_mem hb)).1
  unfold pthR
  rw [if_pos hM.vld, hM.nxl, if_pos (by omega), Int.toNat_natCast, Int.toNat_natCast]
  unfold pthW
  rw [hno]
  rfl
/-- Paths between found states: no error. -/
theorem pth_err (hM : Mok i st n nx ot) {s t : Nat} (hs : s < n) (ht : t < n) : (pthR i st nx ot s t).2 = 0 := by
  unfold pthR
  rw [if_pos hM.vld, hM.nxl, if_pos (by omega)]
theorem tour_cases (hM : Mok i st n nx ot) : (∃ t, tourR i st nx ot = (some t, 0)) ∨ tourR i st nx ot = (none, 8) ∨ tourR i st nx ot = (none, 3) := by
  unfold tourR
  rw [if_pos hM.vld]
  cases trr nx (i : Int).toNat nx.length ((exs nx (i : Int).toNat nx.length (st : Int).toNat).length * (i : Int).toNat) (Tk.zero (st : Int).toNat) [] with
  | none => exact .inr (.inl rfl)
  | some u =>
    by_cases h : 1024 < u.length
    · exact .inr (.inr (by rw [touF, if_pos h]))
    · exact .inl ⟨u, by rw [touF, if_neg h]⟩
end
end Go.Proofs.Ytedcdpmflcegbaa
end

section
/- Plain: both orders are total orders. No program. -/
namespace Go.Proofs.Ytedcdpmflcegbaa

/-- Dictionary order, symbol by symbol. -/
def lexR : List Int → List Int → Int
  | [], [] => 0
  | [], _ :: _ => -1
  | _ :: _, [] => 1
  | a :: as1, b :: bs => if a < b then -1 else if b < a then 1 else lexR as1 bs

theorem lexi_lexR (xs ys : List Int) : lexi xs ys = lexR xs ys := by
  induction xs generalizing ys with
  | nil => cases ys <;> simp [lexi, lexR, cmn]
  | cons a as1 ih =>
    cases ys with
    | nil => simp [lexi, lexR, cmn]
    | cons b bs =>
      have h := ih bs
      unfold lexi at h ⊢
      rw [lexR, cmn]
      by_cases e : a = b
      · subst e
        rw [if_pos rfl, if_neg (Int.lt_irrefl a), if_neg (Int.lt_irrefl a), ← h]
        simp
      · rw [if_neg e]
        simp only [List.length_cons]
        rw [if_neg (by omega)]
        by_cases h1 : a < b
        · rw [if_pos h1, if_pos (by simp [h1])]
        · have h2 : b < a := by omega
          simp [h1, h2]

theorem lexR_bd (xs ys : List Int) : -1 ≤ lexR xs ys ∧ lexR xs ys ≤ 1 := by
  induction xs generalizing ys with
  | nil => cases ys <;> simp [lexR]
  | cons a as1 ih =>
    cases ys with
    | nil => simp [lexR]
    | cons b bs =>
      rw [lexR]
      split
      · omega
      · split
        · omega
        · exact ih bs

theorem lexR_neg (xs ys : List Int) : lexR ys xs = - lexR xs ys := by
  induction xs generalizing ys with
  | nil => cases ys <;> simp [lexR]
  | cons a as1 ih =>
    cases ys with
    | nil => simp [lexR]
    | cons b bs =>
      rw [lexR, lexR]
      by_cases h1 : a < b
      · rw [if_neg (by omega), if_pos h1, if_pos h1]; rfl
      · by_cases h2 : b < a
        · rw [if_pos h2, if_neg h1, if_pos h2]
        · rw [if_neg h2, if_neg h1, if_neg h1, if_neg h2, ih bs]

theorem lexR_zero (xs ys : List Int) : lexR xs ys = 0 ↔ xs = ys := by
  induction xs generalizing ys with
  | nil => cases ys <;> simp [lexR]
  | cons a as1 ih =>
    cases ys with
    | nil => simp [lexR]
    | cons b bs =>
      rw [lexR]
      by_cases h1 : a < b
      · rw [if_pos h1]; constructor; (intro h; omega); (intro h; cases h; omega)
      · by_cases h2 : b < a
        · rw [if_neg h1, if_pos h2]; constructor; (intro h; omega); (intro h; cases h; omega)
        · rw [if_neg h1, if_neg h2, ih bs]
          have : a = b := by omega
          simp [this]

theorem lexR_trans (xs ys zs : List Int) : (lexR xs ys ≤ 0 → lexR ys zs ≤ 0 → lexR xs zs ≤ 0) ∧ (lexR xs ys < 0 → lexR ys zs ≤ 0 → lexR xs zs < 0) := by
  induction xs generalizing ys zs with
  | nil => cases ys <;> cases zs <;> simp [lexR]
  | cons a as1 ih =>
    cases ys with
    | nil => simp [lexR]
    | cons b bs =>
      cases zs with
      | nil => simp [lexR]
      | cons c cs =>
        have := ih bs cs
        rw [lexR, lexR, lexR]
        repeat' split
        all_goals omega

theorem lexR_join (cs xs ys : List Int) : lexR (cs ++ xs) (cs ++ ys) = lexR xs ys := by
  induction cs with
  | nil => rfl
  | cons c cs ih => rw [List.cons_append, List.cons_append, lexR, if_neg (Int.lt_irrefl c), if_neg (Int.lt_irrefl c), ih]

theorem shlex_def (xs ys : List Int) : shlex xs ys = if xs.length < ys.length then -1 else if ys.length < xs.length then 1 else lexR xs ys := by
  unfold shlex; rw [lexi_lexR]

theorem shlex_bd (xs ys : List Int) : -1 ≤ shlex xs ys ∧ shlex xs ys ≤ 1 := by
  have := lexR_bd xs ys
  rw [shlex_def]; split; omega; split; omega; omega

theorem shlex_neg (xs ys : List Int) : shlex ys xs = - shlex xs ys := by
  rw [shlex_def, shlex_def, lexR_neg xs ys]
  by_cases h1 : xs.length < ys.length
  · rw [if_neg (by omega), if_pos h1, if_pos h1]; rfl
  · by_cases h2 : ys.length < xs.length
    · rw [if_pos h2, if_neg h1, if_pos h2]
    · rw [if_neg h2, if_neg h1, if_neg h1, if_neg h2]

theorem shlex_zero (xs ys : List Int) : shlex xs ys = 0 ↔ xs = ys := by
  rw [shlex_def]
  by_cases h1 : xs.length < ys.length
  · rw [if_pos h1]; constructor; (intro h; omega); (intro h; subst h; omega)
  · by_cases h2 : ys.length < xs.length
    · rw [if_neg h1, if_pos h2]; constructor; (intro h; omega); (intro h; subst h; omega)
    · rw [if_neg h1, if_neg h2, lexR_zero]

theorem shlex_trans (xs ys zs : List Int) : (shlex xs ys ≤ 0 → shlex ys zs ≤ 0 → shlex xs zs ≤ 0) ∧ (shlex xs ys < 0 → shlex ys zs ≤ 0 → shlex xs zs < 0) := by
  have := lexR_trans xs ys zs
  rw [shlex_def, shlex_def, shlex_def]
  repeat' split
  all_goals omega

theorem shlex_join (cs xs ys : List Int) : shlex (cs ++ xs) (cs ++ ys) = shlex xs ys := by
  rw [shlex_def, shlex_def, lexR_join, List.length_append, List.length_append]
  by_cases h1 : xs.length < ys.length
  · rw [if_pos (by omega), if_pos h1]
  · by_cases h2 : ys.length < xs.length
    · rw [if_neg (by omega), if_pos (by omega), if_neg h1, if_pos h2]
    · rw [if_neg (by omega), if_neg (by omega), if_neg h1, if_neg h2]

theorem lexR_prefix (xs ys : List Int) (h : cmn xs ys = ys.length) : 0 ≤ lexR xs ys := by
  rw [← lexi_lexR]
  have := cmn_le_left xs ys
  unfold lexi
  split
  · omega
  · rw [if_neg (by omega)]; omega

theorem shlex_prefix (xs ys : List Int) (h : cmn xs ys = ys.length) : 0 ≤ shlex xs ys := by
  have h1 := lexR_prefix xs ys h
  have := cmn_le_left xs ys
  rw [shlex_def, if_neg (by omega)]
  split <;> omega
end Go.Proofs.Ytedcdpmflcegbaa
end

section
/- Sets of words: the sorted list of the different words of a list. No program. -/
namespace Go.Proofs.Ytedcdpmflcegbaa

/-- Ascending by shortlex order. -/
def AscW (l : List (List Int)) : Prop := l.Pairwise fun x y => shlex x y < 0
theorem shlex_lt_trans {x y z : List Int} (h1 : shlex x y < 0) (h2 : shlex y z < 0) : shlex x z < 0 := (shlex_trans x y z).2 h1 (Int.le_of_lt h2)
theorem shlex_irr (x : List Int) : shlex x x = 0 := (shlex_zero x x).2 rfl
theorem shlex_gt' {x y : List Int} (h : ¬ shlex x y < 0) (hne : x ≠ y) : shlex y x < 0 := by
  have h1 := shlex_neg x y
  have h2 : shlex x y ≠ 0 := fun e => hne ((shlex_zero x y).1 e)
  omega

/-- Two ascending lists with the same words are one. -/
theorem ascW_eq {xs ys : List (List Int)} (hx : AscW xs) (hy : AscW ys) (h : ∀ x, x ∈ xs ↔ x ∈ ys) : xs = ys := by
  induction xs generalizing ys with
  | nil =>
    cases ys with
    | nil => rfl
    | cons y ys => exact absurd ((h y).2 List.mem_cons_self) (by simp)
  | cons x xs ih =>
    cases ys with
    | nil => exact absurd ((h x).1 List.mem_cons_self) (by simp)
    | cons y ys =>
      have hx' := List.pairwise_cons.1 hx
      have hy' := List.pairwise_cons.1 hy
      have irr : ∀ a b : List Int, shlex a b < 0 → shlex b a < 0 → False := fun a b h1 h2 => by have := shlex_neg a b; omega
      have irr0 : ∀ a : List Int, ¬ shlex a a < 0 := fun a h1 => by have := shlex_irr a; omega
      have e : x = y := by
        rcases List.mem_cons.1 ((h x).1 List.mem_cons_self) with e | e
        · exact e
        · rcases List.mem_cons.1 ((h y).2 List.mem_cons_self) with e2 | e2
          · exact e2.symm
          · exact (irr _ _ (hy'.1 x e) (hx'.1 y e2)).elim
      subst e
      congr 1
      refine ih hx'.2 hy'.2 fun z => ⟨fun k => ?_, fun k => ?_⟩
      · rcases List.mem_cons.1 ((h z).1 (List.mem_cons_of_mem _ k)) with e | e
        · exact (irr0 x (e ▸ hx'.1 z k)).elim
        · exact e
      · rcases List.mem_cons.1 ((h z).2 (List.mem_cons_of_mem _ k)) with e | e
        · exact (irr0 x (e ▸ hy'.1 z k)).elim
        · exact e

/-- A word put into a sorted list. -/
def wins : List (List Int) → List Int → List (List Int)
  | [], v => [v]
  | x :: l, v => if shlex x v < 0 then x :: wins l v else if x = v then x :: l else v :: x :: l
theorem wins_mem (l : List (List Int)) (v x : List Int) : x ∈ wins l v ↔ x = v ∨ x ∈ l := by
  induction l with
  | nil => simp [wins]
  | cons y l ih =>
    unfold wins
    split
    · rw [List.mem_cons, ih, List.mem_cons]; exact ⟨fun h => h.elim (fun h => .inr (.inl h)) (fun h => h.elim .inl fun h => .inr (.inr h)), fun h => h.elim (fun h => .inr (.inl h)) fun h => h.elim .inl fun h => .inr (.inr h)⟩
    · split
      · rename_i e
        subst e
        exact ⟨.inr, fun h => h.elim (fun h => h ▸ List.mem_cons_self) id⟩
      · simp
theorem wins_asc {l : List (List Int)} {v : List Int} (h : AscW l) : AscW (wins l v) := by
  induction l with
  | nil => simp [wins, AscW]
  | cons y l ih =>
    have h' := List.pairwise_cons.1 h
    unfold wins
    split
    · rename_i hlt
      refine List.pairwise_cons.2 ⟨fun x hx => ?_, ih h'.2⟩
      rcases (wins_mem l v x).1 hx with rfl | hx
      · exact hlt
      · exact h'.1 x hx
    · split
      · exact h
      · rename_i hlt hne
        have hlt2 := shlex_gt' hlt hne
        refine List.pairwise_cons.2 ⟨fun x hx => ?_, h⟩
        rcases List.mem_cons.1 hx with rfl | hx
        · exact hlt2
        · exact shlex_lt_trans hlt2 (h'.1 x hx)

/-- The sorted list of the different words. -/
def swA : List (List Int) → List (List Int) → List (List Int)
  | [], acc => acc
  | x :: r, acc => swA r (wins acc x)
def sw (l : List (List Int)) : List (List Int) := swA l []
theorem swA_asc {l acc : List (List Int)} (h : AscW acc) : AscW (swA l acc) := by
  induction l generalizing acc with
  | nil => exact h
  | cons x l ih => exact ih (wins_asc h)
theorem swA_mem (l acc : List (List Int)) (x : List Int) : x ∈ swA l acc ↔ x ∈ acc ∨ x ∈ l := by
  induction l generalizing acc with
  | nil => simp [swA]
  | cons y l ih =>
    show x ∈ swA l (wins acc y) ↔ _
    rw [ih, wins_mem, List.mem_cons]
    exact ⟨fun h => h.elim (fun h => h.elim (fun h => .inr (.inl h)) .inl) (fun h => .inr (.inr h)), fun h => h.elim (fun h => .inl (.inr h)) fun h => h.elim (fun h => .inl (.inl h)) .inr⟩
theorem sw_asc (l : List (List Int)) : AscW (sw l) := swA_asc List.Pairwise.nil
theorem sw_mem (l : List (List Int)) (x : List Int) : x ∈ sw l ↔ x ∈ l := by unfold sw; rw [swA_mem]; simp
theorem sw_eq {l out : List (List Int)} (h : AscW out) (hm : ∀ x, x ∈ out ↔ x ∈ l) : out = sw l := ascW_eq h (sw_asc l) fun x => (hm x).trans (sw_mem l x).symm
theorem sw_same {l m : List (List Int)} (h : ∀ x, x ∈ l ↔ x ∈ m) : sw l = sw m := sw_eq (sw_asc l) fun x => (sw_mem l x).trans (h x)
theorem sw_sw (l : List (List Int)) : sw (sw l) = sw l := sw_same (sw_mem l)
theorem sw_self {l : List (List Int)} (h : AscW l) : sw l = l := (sw_eq h fun _ => Iff.rfl).symm
theorem swA_drop {l : List (List Int)} {j : Nat} (h : j < l.length) (acc : List (List Int)) : swA (l.drop j) acc = swA (l.drop (j + 1)) (wins acc (l.getD j [])) := by
  rw [List.drop_eq_getElem_cons h, List.getD_eq_getElem?_getD, List.getElem?_eq_getElem h]; rfl
theorem wins_len (l : List (List Int)) (v : List Int) : (wins l v).length ≤ l.length + 1 := by
  induction l with
  | nil => simp [wins]
  | cons x l ih =>
    unfold wins
    split
    · simp; exact ih
    · split <;> simp
theorem swA_len (l acc : List (List Int)) : (swA l acc).length ≤ acc.length + l.length := by
  induction l generalizing acc with
  | nil => exact Nat.le_refl _
  | cons x l ih =>
    have h1 := ih (wins acc x)
    have h2 := wins_len acc x
    show (swA l (wins acc x)).length ≤ _
    rw [List.length_cons]; omega
theorem sw_len (l : List (List Int)) : (sw l).length ≤ l.length := by have := swA_len l []; simpa [sw] using this
end Go.Proofs.Ytedcdpmflcegbaa
end

section
/- Sets of words in dictionary order: all prefixes, the maximal words. No program. -/
namespace Go.Proofs.Ytedcdpmflcegbaa

theorem cmn_mono {a b c : List Int} (h1 : lexR a b ≤ 0) (h2 : lexR b c ≤ 0) : cmn a c ≤ cmn b c ∧ cmn a c ≤ cmn a b := by
  induction a generalizing b c with
  | nil => simp [cmn]
  | cons x as1 ih =>
    cases c with
    | nil => simp [cmn]
    | cons z cs =>
      cases b with
      | nil => simp [lexR] at h1
      | cons y bs =>
        rw [lexR] at h1 h2
        rw [cmn, cmn, cmn]
        by_cases hxz : x = z
        · subst hxz
          have hyx : ¬ y < x := by intro h; rw [if_neg (by omega), if_pos h] at h1; omega
          have hxy : ¬ x < y := by intro h; rw [if_neg (by omega), if_pos h] at h2; omega
          have e : x = y := by omega
          subst e
          rw [if_neg (Int.lt_irrefl _), if_neg (Int.lt_irrefl _)] at h1 h2
          have := ih h1 h2
          simp only [if_true]
          omega
        · rw [if_neg hxz]; omega

theorem pre_cmn {x y : List Int} : x <+: y ↔ cmn x y = x.length := by
  induction x generalizing y with
  | nil => simp [cmn]
  | cons a as1 ih =>
    cases y with
    | nil => simp [cmn]
    | cons b bs =>
      rw [cmn, List.cons_prefix_cons, ih]
      by_cases h : a = b
      · simp [h]
      · rw [if_neg h]; simp [h]
theorem pre_cmn' {x y : List Int} : x <+: y ↔ cmn y x = x.length := by rw [cmn_comm]; exact pre_cmn
theorem pre_lex {x y : List Int} (h : x <+: y) (hne : x ≠ y) : lexR x y < 0 := by
  induction x generalizing y with
  | nil =>
    cases y with
    | nil => exact absurd rfl hne
    | cons b bs => simp [lexR]
  | cons a as1 ih =>
    cases y with
    | nil => simp at h
    | cons b bs =>
      rw [List.cons_prefix_cons] at h
      obtain ⟨rfl, h⟩ := h
      rw [lexR, if_neg (Int.lt_irrefl _), if_neg (Int.lt_irrefl _)]
      exact ih h fun e => hne (by rw [e])
theorem pre_min {x a b : List Int} (h1 : x <+: a) (h2 : x <+: b) : x.length ≤ cmn a b := by
  induction x generalizing a b with
  | nil => simp
  | cons z zs ih =>
    cases a with
    | nil => simp at h1
    | cons p as1 =>
      cases b with
      | nil => simp at h2
      | cons q bs =>
        rw [List.cons_prefix_cons] at h1 h2
        obtain ⟨rfl, h1⟩ := h1
        obtain ⟨rfl, h2⟩ := h2
        rw [cmn, if_pos rfl]
        have := ih h1 h2
        simp; omega
theorem pre_take {x y : List Int} {n : Nat} (h : n ≤ cmn x y) : x.take n <+: y := by
  induction n generalizing x y with
  | zero => simp
  | succ n ih =>
    cases x with
    | nil => simp
    | cons a as1 =>
      cases y with
      | nil => simp [cmn] at h
      | cons b bs =>
        rw [cmn] at h
        by_cases e : a = b
        · subst e
          rw [if_pos rfl] at h
          rw [List.take_succ_cons, List.cons_prefix_cons]
          exact ⟨rfl, ih (by omega)⟩
        · rw [if_neg e] at h; omega

/-- Ascending in dictionary order. -/
def AscL (l : List (List Int)) : Prop := l.Pairwise fun x y => lexR x y < 0
theorem AscL.at_ {l : List (List Int)} (h : AscL l) {i j : Nat} (hij : i < j) (hj : j < l.length) : lexR (l.getD i []) (l.getD j []) < 0 := by
  have := List.pairwise_iff_getElem.1 h i j (by omega) hj hij
  simpa [List.getD, List.getElem?_eq_getElem hj, List.getElem?_eq_getElem (show i < l.length by omega)] using this
theorem lexR_irr (x : List Int) : lexR x x = 0 := (lexR_zero x x).2 rfl
theorem AscL.nodup {l : List (List Int)} (h : AscL l) : l.Nodup := List.Pairwise.imp (fun {a b} h e => by subst e; have := lexR_irr a; omega) h
theorem AscW.nodup {l : List (List Int)} (h : AscW l) : l.Nodup := List.Pairwise.imp (fun {a b} h e => by subst e; have := shlex_irr a; omega) h

/-- The prefixes of w with a to b - 1 symbols. -/
def tks (w : List Int) (a b : Nat) : List (List Int) := (List.range' a (b - a)).map fun n => w.take n
theorem tks_none (w : List Int) (a : Nat) : tks w a a = [] := by simp [tks]
theorem tks_succ (w : List Int) {a b : Nat} (h : a ≤ b) : tks w a (b + 1) = tks w a b ++ [w.take b] := by
  unfold tks
  rw [show b + 1 - a = (b - a) + 1 by omega, List.range'_concat, List.map_append]
  simp
  congr 1; omega
theorem tks_len (w : List Int) (a b : Nat) : (tks w a b).length = b - a := by simp [tks]
theorem tks_mem {w x : List Int} {a b : Nat} (hb : b ≤ w.length + 1) : x ∈ tks w a b ↔ x <+: w ∧ a ≤ x.length ∧ x.length < b := by
  unfold tks
  rw [List.mem_map]
  constructor
  · rintro ⟨n, hn, rfl⟩
    rw [List.mem_range'_1] at hn
    refine ⟨List.take_prefix _ _, ?_, ?_⟩ <;> rw [List.length_take] <;> omega
  · rintro ⟨h, h1, h2⟩
    exact ⟨x.length, by rw [List.mem_range'_1]; omega, (List.prefix_iff_eq_take.1 h).symm⟩
theorem tks_nodup {w : List Int} {a b : Nat} (hb : b ≤ w.length + 1) : (tks w a b).Nodup := by
  induction b with
  | zero => simp [tks]
  | succ b ih =>
    by_cases h : a ≤ b
    · rw [tks_succ w h]
      refine List.nodup_append.2 ⟨ih (by omega), by simp, fun x hx y hy e => ?_⟩
      rw [List.mem_singleton] at hy
      subst e
      rw [tks_mem (by omega)] at hx
      have : x.length = b := by rw [hy, List.length_take]; omega
      omega
    · have : tks w a (b + 1) = [] := by unfold tks; rw [show b + 1 - a = 0 by omega]; rfl
      rw [this]; simp

/-- The first length of a prefix of the word i that no earlier word has. -/
def pf (ws : List (List Int)) (i : Nat) : Nat := if i = 0 then 0 else cmn (ws.getD (i - 1) []) (ws.getD i []) + 1
/-- The prefixes that the first i words bring. -/
def prU (ws : List (List Int)) : Nat → List (List Int)
  | 0 => []
  | i + 1 => prU ws i ++ tks (ws.getD i []) (pf ws i) ((ws.getD i []).length + 1)
theorem pf_le (ws : List (List Int)) (i : Nat) : pf ws i ≤ (ws.getD i []).length + 1 := by
  unfold pf
  split
  · omega
  · have := cmn_le_right (ws.getD (i - 1) []) (ws.getD i []); omega
theorem prU_mem {ws : List (List Int)} (i : Nat) (x : List Int) : x ∈ prU ws i ↔ ∃ j, j < i ∧ x <+: ws.getD j [] := by
  induction i generalizing x with
  | zero => simp [prU]
  | succ i ih =>
    rw [prU, List.mem_append, ih, tks_mem (Nat.le_refl _)]
    constructor
    · rintro (⟨j, hj, h⟩ | ⟨h, _⟩)
      · exact ⟨j, by omega, h⟩
      · exact ⟨i, by omega, h⟩
    · rintro ⟨j, hj, h⟩
      by_cases e : j = i
      · subst e
        by_cases hl : pf ws j ≤ x.length
        · have := h.length_le
          exact .inr ⟨h, hl, by omega⟩
        · left
          unfold pf at hl
          split at hl
          · omega
          · rename_i h0
            refine ⟨j - 1, by omega, ?_⟩
            rw [List.prefix_iff_eq_take.1 h]
            refine pre_take ?_
            rw [cmn_comm]; omega
      · exact .inl ⟨j, by omega, h⟩
theorem prU_nodup {ws : List (List Int)} (h : AscL ws) : ∀ i, i ≤ ws.length → (prU ws i).Nodup
  | 0, _ => by simp [prU]
  | i + 1, hi => by
    rw [prU]
    refine List.nodup_append.2 ⟨prU_nodup h i (by omega), tks_nodup (Nat.le_refl _), fun x hx y hy e => ?_⟩
    subst e
    rw [prU_mem] at hx
    rw [tks_mem (Nat.le_refl _)] at hy
    obtain ⟨j, hj, hxj⟩ := hx
    have h1 := pre_min hxj hy.1
    have h2 : cmn (ws.getD j []) (ws.getD i []) ≤ cmn (ws.getD (i - 1) []) (ws.getD i []) := by
      by_cases e : j = i - 1
      · rw [e]; exact Nat.le_refl _
      · exact (cmn_mono (Int.le_of_lt (h.at_ (i := j) (j := i - 1) (by omega) (by omega))) (Int.le_of_lt (h.at_ (i := i - 1) (j := i) (by omega) (by omega)))).1
    have h3 := hy.2.1
    unfold pf at h3
    rw [if_neg (by omega)] at h3
    omega
theorem prU_all {ws : List (List Int)} (x : List Int) : x ∈ prU ws ws.length ↔ ∃ y, y ∈ ws ∧ x <+: y := by
  rw [prU_mem]
  constructor
  · rintro ⟨j, hj, h⟩
    exact ⟨_, by rw [List.getD_eq_getElem?_getD, List.getElem?_eq_getElem hj]; exact List.getElem_mem hj, h⟩
  · rintro ⟨y, hy, h⟩
    obtain ⟨j, hj, rfl⟩ := List.getElem_of_mem hy
    exact ⟨j, hj, by rw [List.getD_eq_getElem?_getD, List.getElem?_eq_getElem hj]; exact h⟩

/-- The words among the first i that are no prefix of the next one. -/
def mxU (ws : List (List Int)) : Nat → List (List Int)
  | 0 => []
  | i + 1 => if i + 1 = ws.length ∨ cmn (ws.getD (i + 1) []) (ws.getD i []) ≠ (ws.getD i []).length then mxU ws i ++ [ws.getD i []] else mxU ws i
/-- A word of l that is no proper prefix of another. -/
def Mx (l : List (List Int)) (x : List Int) : Prop := x ∈ l ∧ ∀ y, y ∈ l → x <+: y → x = y
theorem mxU_mem0 {ws : List (List Int)} (i : Nat) (x : List Int) : x ∈ mxU ws i ↔ ∃ j, j < i ∧ x = ws.getD j [] ∧ (j + 1 = ws.length ∨ ¬ ws.getD j [] <+: ws.getD (j + 1) []) := by
  induction i with
  | zero => simp [mxU]
  | succ i ih =>
    rw [mxU]
    by_cases hc : i + 1 = ws.length ∨ cmn (ws.getD (i + 1) []) (ws.getD i []) ≠ (ws.getD i []).length
    · rw [if_pos hc, List.mem_append, ih, List.mem_singleton]
      constructor
      · rintro (⟨j, hj, h⟩ | rfl)
        · exact ⟨j, by omega, h⟩
        · refine ⟨i, by omega, rfl, hc.imp id fun h => ?_⟩
          rw [pre_cmn']; exact h
      · rintro ⟨j, hj, h⟩
        by_cases e : j = i
        · subst e; exact .inr h.1
        · exact .inl ⟨j, by omega, h⟩
    · rw [if_neg hc, ih]
      constructor
      · rintro ⟨j, hj, h⟩; exact ⟨j, by omega, h⟩
      · rintro ⟨j, hj, h⟩
        by_cases e : j = i
        · subst e
          exact absurd (h.2.imp id fun h => by rw [pre_cmn'] at h; exact h) hc
        · exact ⟨j, by omega, h⟩
theorem mxU_mem {ws : List (List Int)} (h : AscL ws) (x : List Int) : x ∈ mxU ws ws.length ↔ Mx ws x := by
  rw [mxU_mem0]
  constructor
  · rintro ⟨j, hj, rfl, hc⟩
    refine ⟨by rw [List.getD_eq_getElem?_getD, List.getElem?_eq_getElem hj]; exact List.getElem_mem hj, fun y hy hp => ?_⟩
    obtain ⟨k, hk, rfl⟩ := List.getElem_of_mem hy
    have ek : ws[k] = ws.getD k [] := by rw [List.getD_eq_getElem?_getD, List.getElem?_eq_getElem hk]; rfl
    rw [ek] at hp ⊢
    rcases Nat.lt_trichotomy k j with hkj | hkj | hkj
    · have h1 := h.at_ hkj hj
      by_cases e : ws.getD j [] = ws.getD k []
      · exact e
      · have h2 := pre_lex hp e
        have h3 := lexR_neg (ws.getD j []) (ws.getD k [])
        omega
    · rw [hkj]
    · exfalso
      rcases hc with hc | hc
      · omega
      · apply hc
        by_cases e : k = j + 1
        · rw [e] at hp; exact hp
        · have h2 := (cmn_mono (Int.le_of_lt (h.at_ (i := j) (j := j + 1) (by omega) (by omega))) (Int.le_of_lt (h.at_ (i := j + 1) (j := k) (by omega) hk))).2
          rw [pre_cmn] at hp ⊢
          have h3 := cmn_le_left (ws.getD j []) (ws.getD (j + 1) [])
          omega
  · rintro ⟨hx, hm⟩
    obtain ⟨j, hj, rfl⟩ := List.getElem_of_mem hx
    have ej : ws[j] = ws.getD j [] := by rw [List.getD_eq_getElem?_getD, List.getElem?_eq_getElem hj]; rfl
    refine ⟨j, hj, ej, ?_⟩
    by_cases e : j + 1 = ws.length
    · exact .inl e
    · right
      intro hp
      have hj1 : j + 1 < ws.length := by omega
      have h1 := hm (ws.getD (j + 1) []) (by rw [List.getD_eq_getElem?_getD, List.getElem?_eq_getElem hj1]; exact List.getElem_mem hj1) (by rw [ej]; exact hp)
      have h2 := h.at_ (i := j) (j := j + 1) (by omega) hj1
      rw [← h1, ej, lexR_irr] at h2
      omega
theorem mxU_sub (ws : List (List Int)) (i : Nat) : (mxU ws i).Sublist (ws.take i) := by
  induction i with
  | zero => simp [mxU]
  | succ i ih =>
    have hs : (ws.take i).Sublist (ws.take (i + 1)) := by
      have : ws.take i = (ws.take (i + 1)).take i := by rw [List.take_take]; congr 1; omega
      rw [this]; exact List.take_sublist _ _
    rw [mxU]
    split
    · by_cases hi : i < ws.length
      · rw [List.take_succ_eq_append_getElem hi, List.getD_eq_getElem?_getD, List.getElem?_eq_getElem hi]
        exact ih.append (List.Sublist.refl _)
      · rename_i hc
        rcases hc with hc | hc
        · omega
        · exfalso
          apply hc
          rw [List.getD_eq_getElem?_getD, List.getD_eq_getElem?_getD, List.getElem?_eq_none (by omega), List.getElem?_eq_none (by omega)]
          simp [cmn]
    · exact ih.trans hs
theorem mxU_nodup {ws : List (List Int)} (h : AscL ws) : (mxU ws ws.length).Nodup := ((mxU_sub ws ws.length).trans (List.take_sublist _ _)).nodup h.nodup

/-- Lists with the same members and no repetition. -/
theorem perm_of {l m : List (List Int)} (h1 : l.Nodup) (h2 : m.Nodup) (h : ∀ x, x ∈ l ↔ x ∈ m) : l.Perm m := (List.perm_ext_iff_of_nodup h1 h2).2 h

/-- All prefixes, all suffixes, the maximal words. -/
def preS (l : List (List Int)) : List (List Int) := l.flatMap fun w => (List.range (w.length + 1)).map fun n => w.take n
def sufS (l : List (List Int)) : List (List Int) := l.flatMap fun w => (List.range (w.length + 1)).map fun n => w.drop n
def maxS (l : List (List Int)) : List (List Int) := l.filter fun x => l.all fun y => decide (cmn x y = x.length → x = y)
theorem preS_mem (l : List (List Int)) (x : List Int) : x ∈ preS l ↔ ∃ y, y ∈ l ∧ x <+: y := by
  unfold preS
  rw [List.mem_flatMap]
  constructor
  · rintro ⟨y, hy, h⟩
    rw [List.mem_map] at h
    obtain ⟨n, _, rfl⟩ := h
    exact ⟨y, hy, List.take_prefix _ _⟩
  · rintro ⟨y, hy, h⟩
    exact ⟨y, hy, List.mem_map.2 ⟨x.length, by have := h.length_le; simp; omega, (List.prefix_iff_eq_take.1 h).symm⟩⟩
theorem sufS_mem (l : List (List Int)) (x : List Int) : x ∈ sufS l ↔ ∃ y, y ∈ l ∧ x <:+ y := by
  unfold sufS
  rw [List.mem_flatMap]
  constructor
  · rintro ⟨y, hy, h⟩
    rw [List.mem_map] at h
    obtain ⟨n, _, rfl⟩ := h
    exact ⟨y, hy, List.drop_suffix _ _⟩
  · rintro ⟨y, hy, h⟩
    exact ⟨y, hy, List.mem_map.2 ⟨y.length - x.length, by simp; omega, (List.suffix_iff_eq_drop.1 h).symm⟩⟩
theorem maxS_mem (l : List (List Int)) (x : List Int) : x ∈ maxS l ↔ Mx l x := by
  unfold maxS Mx
  rw [List.mem_filter, List.all_eq_true]
  simp only [decide_eq_true_eq, pre_cmn]
theorem Mx.same {l m : List (List Int)} (h : ∀ x, x ∈ l ↔ x ∈ m) (x : List Int) : Mx l x ↔ Mx m x := by
  unfold Mx
  rw [h]
  exact and_congr_right fun _ => forall_congr' fun y => by rw [h]
end Go.Proofs.Ytedcdpmflcegbaa
end

section
/- The access words are in order, and hold their prefixes. -/
namespace Go.Proofs.Ytedcdpmflcegbaa

theorem Lx_asymm : ∀ {u v : List Int}, Lx u v → Lx v u → False
  | [], [], h, _ => h
  | [], _ :: _, h, _ => h
  | _ :: _, [], h, _ => h
  | a :: u, b :: v, h, k => by
    rcases h with h | ⟨h1, h2⟩
    · rcases k with k | ⟨k1, _⟩ <;> omega
    · rcases k with k | ⟨_, k2⟩
      · omega
      · exact Lx_asymm h2 k2
theorem Lx_irr : ∀ {u : List Int}, ¬ Lx u u
  | [], h => h
  | a :: u, h => by
    rcases h with h | ⟨_, h⟩
    · omega
    · exact Lx_irr h
theorem SL_irr {u : List Int} : ¬ SL u u := fun h => by
  rcases h with h | ⟨_, h⟩
  · omega
  · exact Lx_irr h
theorem SL_asymm {u v : List Int} (h : SL u v) (k : SL v u) : False := by
  rcases h with h | ⟨h1, h2⟩
  · rcases k with k | ⟨k1, _⟩ <;> omega
  · rcases k with k | ⟨_, k2⟩
    · omega
    · exact Lx_asymm h2 k2
theorem shlex_SL {u v : List Int} (h : SL u v) : shlex u v < 0 := by
  by_cases h1 : shlex u v < 0
  · exact h1
  · by_cases e : u = v
    · subst e; exact absurd h SL_irr
    · exact (SL_asymm h (shlex_sl (shlex_gt' h1 e))).elim
theorem shlex_not {u v : List Int} (h : ¬ SL v u) : shlex u v ≤ 0 := by
  by_cases h1 : shlex v u < 0
  · exact absurd (shlex_sl h1) h
  · by_cases e : v = u
    · subst e; rw [shlex_irr]; exact Int.le_refl _
    · exact Int.le_of_lt (shlex_gt' h1 e)
theorem SL_ext {u v : List Int} {x y : Int} (h : SL u v) : SL (u ++ [x]) (v ++ [y]) := by
  rcases h with h | ⟨h1, h2⟩
  · exact .inl (by rw [List.length_append, List.length_append]; show _ + 1 < _ + 1; omega)
  · exact .inr ⟨by rw [List.length_append, List.length_append, h1]; rfl, (Lx_snoc h1).2 (.inl h2)⟩
theorem SL_last {u : List Int} {x y : Int} (h : x < y) : SL (u ++ [x]) (u ++ [y]) := .inr ⟨by simp, (Lx_snoc rfl).2 (.inr ⟨rfl, h⟩)⟩
section
variable {nx ot nx2 ot1 ot2 : List (List Int)} {i st n s t T : Nat} {E : List Ent}
theorem Ord_.inc (h : Ord_ nx nx2 ot1 ot2 i s t T E) : ∀ l k, k < l → l < E.length → SL (E.getD k Ent.zero).w (E.getD l Ent.zero).w := by
  intro l
  induction l using Nat.strongRecOn with
  | _ l ih =>
    intro k hkl hl
    obtain ⟨b1, b2⟩ := h.bk l (by omega) hl
    by_cases h0 : k = 0
    · subst h0
      rw [h.z, b2]
      exact .inl (by rw [List.length_append]; show 0 < _ + 1; omega)
    · obtain ⟨c1, c2⟩ := h.bk k (by omega) (by omega)
      have hm := h.mono k l (by omega) hkl hl
      have x1 := (h.xs k (by omega) (by omega)).1
      have x2 := (h.xs l (by omega) hl).1
      rw [b2, c2]
      generalize (E.getD k Ent.zero).j = jk at c1 hm ⊢
      generalize hjl : (E.getD l Ent.zero).j = jl at b1 hm ⊢
      rcases Nat.lt_trichotomy jk jl with h1 | h1 | h1
      · exact SL_ext (ih jl b1 jk h1 (by omega))
      · subst h1
        exact SL_last (by omega)
      · exfalso
        have : (jl + 1) * i ≤ jk * i := Nat.mul_le_mul_right i h1
        rw [Nat.succ_mul] at this
        omega
theorem Ord_.asc (h : Ord_ nx nx2 ot1 ot2 i s t T E) : AscW (wsL E) := by
  unfold AscW wsL
  rw [List.pairwise_map, List.pairwise_iff_getElem]
  intro a b ha hb hab
  rw [getDE_get ha, getDE_get hb]
  exact shlex_SL (h.inc b a hab hb)
theorem Ord_.pre (h : Ord_ nx nx2 ot1 ot2 i s t T E) : ∀ k x, k < E.length → x <+: (E.getD k Ent.zero).w → x ∈ wsL E := by
  intro k
  induction k using Nat.strongRecOn with
  | _ k ih =>
    intro x hk hx
    by_cases h0 : k = 0
    · subst h0
      rw [h.z] at hx
      have : x = [] := List.prefix_nil.1 hx
      rw [this]
      exact mem_wsL.2 ⟨0, hk, h.z⟩
    · obtain ⟨b1, b2⟩ := h.bk k (by omega) hk
      rw [b2] at hx
      rcases List.prefix_concat_iff.1 hx with h1 | h1
      · exact mem_wsL.2 ⟨k, hk, by rw [b2]; exact h1.symm⟩
      · exact ih _ b1 x (by omega) h1
theorem pre_self (hM : Mok i st n nx ot) (hs : s < n) : sw (preS (wsL (exs nx i n s))) = wsL (exs nx i n s) := by
  have hO := exs_ord (i := i) hM hs
  refine (sw_eq hO.asc fun x => ?_).symm
  rw [preS_mem]
  constructor
  · intro hx
    exact ⟨x, hx, List.prefix_refl x⟩
  · rintro ⟨y, hy, hxy⟩
    obtain ⟨k, hk, rfl⟩ := mem_wsL.1 hy
    exact hO.pre k x hk hxy
/-- The path from the start to a state is its access word. -/
theorem pth_self (hM : Mok i st n nx ot) {k : Nat} (hk : k < (exs nx i n st).length) : pthR i st nx ot st (((exs nx i n st).getD k Ent.zero).p : Int) = (some ((exs nx i n st).getD k Ent.zero).w, 0) := by
  have hE := exs_ens (i := i) hM hM.st
  have hp := (hE.lt _ (getDE_mem hk)).1
  have hst := hM.st
  unfold pthR
  rw [if_pos hM.vld, hM.nxl, if_pos (by omega), Int.toNat_natCast, Int.toNat_natCast]
  unfold pthW
  rw [fi_hit (k := k) (by rw [psL_len]; exact hk) (psL_at hk) fun j hj e => by
    rw [psL_at (by omega)] at e
    have := ens_inj hE (a := j) (b := k) (by omega) hk (by omega)
    omega]
  rfl
/-- No word that reaches a state is before its access word. -/
theorem acc_first (hM : Mok i st n nx ot) {k : Nat} (hk : k < (exs nx i n st).length) {u : List Int} (hu : Wd i u) (h : runS nx st u = ((exs nx i n st).getD k Ent.zero).p) : shlex ((exs nx i n st).getD k Ent.zero).w u ≤ 0 := by
  have hE := exs_ens (i := i) hM hM.st
  have hO := exs_ord (i := i) hM hM.st
  refine shlex_not fun hsl => ?_
  obtain ⟨c, hc, e, _⟩ := hO.before _ u k (Nat.le_refl _) hk hu hsl
  have := ens_inj hE (a := c) (b := k) (by omega) hk (by omega)
  omega
/-- The state that a word reaches, or -1. -/
def lastR (i st : Int) (nx ot : List (List Int)) (u : List Int) : Int := if (frm i st nx ot st u).2.2 = 0 then (frm i st nx ot st u).2.1 else -1
theorem last_ok (hM : Mok i st n nx ot) {u : List Int} (h : chk u i = 0) : lastR i st nx ot u = (runS nx st u : Int) := by
  unfold lastR
  rw [hM.frm hM.st h]
  rfl
theorem last_bad (hM : Mok i st n nx ot) {u : List Int} (h : ¬ chk u i = 0) : lastR i st nx ot u = -1 := by
  unfold lastR
  rw [frm_word hM.vld (by have := hM.nxl; have := hM.st; omega) h]
  exact if_neg h
theorem last_self (hM : Mok i st n nx ot) {k : Nat} (hk : k < (exs nx i n st).length) : lastR i st nx ot ((exs nx i n st).getD k Ent.zero).w = (((exs nx i n st).getD k Ent.zero).p : Int) := by
  have hE := exs_ens (i := i) hM hM.st
  have hr := exs_run hM hM.st hk
  have h1 := hE.wl k hk
  have h2 := hE.len
  have h3 := hM.n2
  rw [last_ok hM (chk_wd hr.1 hM.i1 hM.i2 (by omega)), hr.2]
/-- What a word reaches is found, and its access word is not behind it. -/
theorem last_cases (hM : Mok i st n nx ot) (u : List Int) : lastR i st nx ot u = -1 ∨ ∃ k, k < (exs nx i n st).length ∧ lastR i st nx ot u = (((exs nx i n st).getD k Ent.zero).p : Int) ∧ Wd i u ∧ ∀ c, c < (exs nx i n st).length → (((exs nx i n st).getD c Ent.zero).p : Int) = lastR i st nx ot u → shlex ((exs nx i n st).getD c Ent.zero).w u ≤ 0 := by
  by_cases h : chk u i = 0
  · have hw : Wd i u := (chk_zero h).2.2.2.wd
    obtain ⟨c, hc, e⟩ := exs_all hM hM.st _ u (Nat.le_refl _) hw
    refine .inr ⟨c, hc, by rw [last_ok hM h, e], hw, fun k hk e2 => ?_⟩
    rw [last_ok hM h] at e2
    exact acc_first hM hk hw (by omega)
  · exact .inl (last_bad hM h)
end
end Go.Proofs.Ytedcdpmflcegbaa
end

section
/- The state that a word reaches; rows of words with their capacities. -/
namespace Go.Proofs.Ytedcdpmflcegbaa
open Go.RowKit

theorem OwnedL.listsC {w : World} {base : Nat} {A : Option Addr} {n c : Nat} {xss : List (List Int)} (h : OwnedL w base (.slice A n c) xss) (hm : xss.length ≤ 17592186044416) (hr : ∀ xs, xs ∈ xss → xs.length ≤ 17592186044416) : ListsC w A n xss := by
  have hn : n = xss.length := by obtain ⟨A', c', e⟩ := h.form; cases e; rfl
  subst hn
  refine ⟨rfl, hm, fun h0 => ?_⟩
  obtain ⟨g, B, d, e, _, _, _⟩ := h.at_ h0
  subst e
  have hg : g < w.heap.size := (h.lt g rfl).2
  refine ⟨g, 0, rfl, hg, fun j hj => ?_⟩
  obtain ⟨g', B', d', e', _, h1, h2⟩ := h.at_ hj
  cases e'
  refine ⟨B', _, d', by rw [Nat.zero_add]; exact h1, ?_, h2.ints (hr _ (by rw [List.getD_eq_getElem?_getD, List.getElem?_eq_getElem hj]; exact List.getElem_mem _))⟩
  rcases h2.2 with ⟨e9, h9⟩ | ⟨g9, cap, cur, e9, _, _, h9, _⟩
  · injection e9 with _ e2 _
    omega
  · injection e9 with _ e2 e3
    omega
set_option maxHeartbeats 2000000 in
theorem plast (i st : Int) (A B D : Option Addr) (n c m d k e : Nat) (nx ot : List (List Int)) (u : List Int) (w : World) (hx : Lists w A n nx) (ho : Lists w B m ot) (hD : Ints w D k u) :
    Calls Try.prog 27 #[.agg #[.int .i64 i, .int .i64 st, .slice A n c, .slice B m d], .slice D k e] w fun r w' => r = .returned (.int .i64 (lastR i st nx ot u)) ∧ Below w.heap.size w w' := by
  have hb0 := alloc_below w (.cells #[.int .i64 i, .int .i64 st, .slice A n c, .slice B m d] 24)
  have hB := mealy_box w (.int .i64 i) (.int .i64 st) (.slice A n c) (.slice B m d)
  obtain ⟨w0, hw0⟩ : ∃ w0, w0 = w.alloc (.cells #[.int .i64 i, .int .i64 st, .slice A n c, .slice B m d] 24) := ⟨_, rfl⟩
  rw [← hw0] at hb0 hB
  have hz0 : w0.heap.size = w.heap.size + 1 := by rw [hw0]; simp
  have HW0 := Lib.hid hw0
  have hbc := Below.refl w0.heap.size w0
  have HX := Lib.hid (fun (W : World) (h : Below w0.heap.size w0 W) => (hx.below hb0).below h)
  have HO := Lib.hid (fun (W : World) (h : Below w0.heap.size w0 W) => (ho.below hb0).below h)
  have HDD := Lib.hid (fun (W : World) (h : Below w0.heap.size w0 W) => (hD.below hb0).below h)
  have HBX := Lib.hid (fun (W : World) (h : Below w0.heap.size w0 W) => hB.kept h (by omega))
  obtain ⟨k0, k1, k2, k3, _⟩ := hB.cells
  rw [HW0.out] at k0 k1 k2 k3
  obtain ⟨F, hF⟩ : ∃ F, F = frm i st nx ot st u := ⟨_, rfl⟩
  obtain ⟨V, hV⟩ : ∃ V, V = lastR i st nx ot u := ⟨_, rfl⟩
  rw [← hV]
  unfold lastR at hV
  rw [← hF] at hV
  have HV := Lib.hid hV
  have HF := Lib.hid hF
  clear hV
  clear hw0 hB hx ho hD hF
  go_enter Try.func27, Try.ntmps27
  go_wp2_with fail
  rw [← HW0.out]
  refine (pfrom _ _ _ _ _ _ _ _ _ _ _ _ _ _ u _ (HX.out _ hbc) (HO.out _ hbc) (HDD.out _ hbc)).mono ?_
  rintro r w1 ⟨A1, c1, rfl, _, b1⟩
  rw [← HF.out]
  have hbe := bt hb0 (bt hbc b1)
  clear k0 k1 k2 k3 HF b1
  obtain ⟨F1, F2, F3⟩ := F
  by_cases hF : F3 = 0
  · subst hF
    have HV2 := Lib.hid (show V = F2 from HV.out)
    go_wp2
    go_ret
    exact ⟨by rw [HV2.out]; rfl, hbe⟩
  · have hne : (F3 != 0) = true := by simpa using hF
    have HV2 := Lib.hid (show V = -1 from HV.out.trans (if_neg hF))
    clear hF HV
    go_wp2
    go_ret
    exact ⟨by rw [HV2.out]; rfl, hbe⟩
end Go.Proofs.Ytedcdpmflcegbaa
end

section
/- The closure of arrange: it compares two words of the captured row by the captured order. -/
namespace Go.Proofs.Ytedcdpmflcegbaa
open Go.RowKit Go.Shelf

/-- The function f orders lists by o, and only reads. -/
def OrdC (f : Nat) (o : List Int → List Int → Int) : Prop := ∀ (A B : Option Addr) (n c m d : Nat) (xs ys : List Int) (w : World), Ints w A n xs → Ints w B m ys →
  Calls Try.prog f #[.slice A n c, .slice B m d] w fun e w' => e = .returned (.int .i64 (o xs ys)) ∧ ∃ q, w' = w.drewN q
theorem ordS : OrdC 28 shlex := fun A B n c m d xs ys w h1 h2 => wcompare A B n c m d xs ys w h1 h2
theorem ordL : OrdC 52 lexi := fun A B n c m d xs ys w h1 h2 => wlex A B n c m d xs ys w h1 h2
theorem entS : ∀ args w, (callFunc 28 args).run Try.prog w = .ok (.enter 28 args) w := enters_of Try.func28 (by kernel_rfl) rfl
theorem entL : ∀ args w, (callFunc 52 args).run Try.prog w = .ok (.enter 52 args) w := enters_of Try.func52 (by kernel_rfl) rfl

set_option maxHeartbeats 2000000 in
theorem pless (f : Nat) (o : List Int → List Int → Int) (ef : ∀ args w, (callFunc f args).run Try.prog w = .ok (.enter f args) w) (hord : OrdC f o) (g n c Bo Bw i j : Nat) (W : World)
    (hco : W.cell? ⟨Bo, 0, none⟩ = some (.func (.func f) #[] #[])) (hcw : W.cell? ⟨Bw, 0, none⟩ = some (.slice (some ⟨g, 0, none⟩) n c)) (hi : i < n) (hj : j < n)
    (A B : Option Addr) (k1 c1 k2 c2 : Nat) (xs ys : List Int) (h1 : W.cell? ⟨g, 0 + i, none⟩ = some (.slice A k1 c1)) (h2 : W.cell? ⟨g, 0 + j, none⟩ = some (.slice B k2 c2)) (hx : Ints W A k1 xs) (hy : Ints W B k2 ys) :
    Calls Try.prog 64 #[.int .i64 i, .int .i64 j, .pointer (some ⟨Bo, 0, none⟩), .pointer (some ⟨Bw, 0, none⟩)] W fun e w' => e = .returned (.bool (decide (o xs ys < 0))) ∧ ∃ q, w' = W.drewN q := by
  rw [Nat.zero_add] at h1 h2
  have hcall : ∀ q, Calls Try.prog f #[.slice A k1 c1, .slice B k2 c2] (W.drewN q) fun e w' => e = .returned (.int .i64 (o xs ys)) ∧ ∃ m, w' = (W.drewN q).drewN m := fun q => hord A B k1 c1 k2 c2 xs ys _ (hx.drewN q) (hy.drewN q)
  have i0 : (0 : Int) ≤ (i : Int) := by omega
  have i1 : (i : Int) < (n : Int) := by omega
  have j1 : (j : Int) < (n : Int) := by omega
  generalize o xs ys = r at hcall
  clear hx hy hord
  go_enter Try.func64, Try.ntmps64
  go_wp2
  go_quiet ((go_at_fn f; exact Calls.quiet_of (hcall _)))
  go_wp2
  go_ret
  exact ⟨rfl, _, rfl⟩
end Go.Proofs.Ytedcdpmflcegbaa
end

section
/- Rows of headers with what they read as: one of each run of equals; sorted rows. No program. -/
namespace Go.Proofs.Ytedcdpmflcegbaa

/-- A total order of words, as1 a number. -/
structure TotO (o : List Int → List Int → Int) : Prop where
  neg : ∀ x y, o y x = - o x y
  zero : ∀ x y, o x y = 0 ↔ x = y
  trans : ∀ x y z, (o x y ≤ 0 → o y z ≤ 0 → o x z ≤ 0) ∧ (o x y < 0 → o y z ≤ 0 → o x z < 0)
theorem totL : TotO lexi where
  neg x y := by rw [lexi_lexR, lexi_lexR]; exact lexR_neg x y
  zero x y := by rw [lexi_lexR]; exact lexR_zero x y
  trans x y z := by rw [lexi_lexR, lexi_lexR, lexi_lexR]; exact lexR_trans x y z
theorem totS : TotO shlex := ⟨shlex_neg, shlex_zero, shlex_trans⟩

variable {α : Type}
/-- Of the first m of ps those whose word is not that of the one before. -/
def cpU (ps : List (α × List Int)) : Nat → List (α × List Int)
  | 0 => []
  | m + 1 => if m = 0 ∨ (ps[m]?.map Prod.snd) ≠ (ps[m - 1]?.map Prod.snd) then cpU ps m ++ (ps[m]?).toList else cpU ps m
theorem cpU_le (ps : List (α × List Int)) (m : Nat) : (cpU ps m).length ≤ m := by
  induction m with
  | zero => simp [cpU]
  | succ m ih =>
    unfold cpU
    split
    · rw [List.length_append]
      have : (ps[m]?).toList.length ≤ 1 := by cases ps[m]? <;> simp
      omega
    · omega
theorem cpU_lt {ps : List (α × List Int)} {m k : Nat} (h : (cpU ps m).length < m) (hk : m ≤ k) : (cpU ps k).length < k := by
  induction k with
  | zero => omega
  | succ k ih =>
    by_cases e : m = k + 1
    · rw [← e]; exact h
    · have := ih (by omega)
      unfold cpU
      split
      · rw [List.length_append]
        have : (ps[k]?).toList.length ≤ 1 := by cases ps[k]? <;> simp
        omega
      · omega
theorem cpU_keep {ps : List (α × List Int)} {m : Nat} (hm : m < ps.length) (h : m = 0 ∨ ps[m].2 ≠ (ps[m - 1]'(by omega)).2) : cpU ps (m + 1) = cpU ps m ++ [ps[m]] := by
  rw [cpU, List.getElem?_eq_getElem hm, List.getElem?_eq_getElem (show m - 1 < ps.length by omega), if_pos]
  · rfl
  · refine h.imp id fun h e => h ?_
    simpa using e
theorem cpU_drop {ps : List (α × List Int)} {m : Nat} (hm : m < ps.length) (h0 : m ≠ 0) (h : ps[m].2 = (ps[m - 1]'(by omega)).2) : cpU ps (m + 1) = cpU ps m := by
  rw [cpU, List.getElem?_eq_getElem hm, List.getElem?_eq_getElem (show m - 1 < ps.length by omega), if_neg]
  simp [h0, h]
theorem cpU_sub (ps : List (α × List Int)) (m : Nat) (p : α × List Int) (h : p ∈ cpU ps m) : p ∈ ps := by
  induction m with
  | zero => simp [cpU] at h
  | succ m ih =>
    unfold cpU at h
    split at h
    · rw [List.mem_append] at h
      rcases h with h | h
      · exact ih h
      · cases hg : ps[m]? with
        | none => rw [hg] at h; simp at h
        | some q => rw [hg] at h; simp at h; subst h; exact List.mem_of_getElem? hg
    · exact ih h
/-- Sorted (equals allowed). -/
def SrtP (o : List Int → List Int → Int) (ps : List (α × List Int)) : Prop := ps.Pairwise fun p q => o p.2 q.2 ≤ 0
theorem cpU_asc {o : List Int → List Int → Int} (O : TotO o) {ps : List (α × List Int)} (hs : SrtP o ps) : ∀ m, m ≤ ps.length →
    ((cpU ps m).map Prod.snd).Pairwise (fun x y => o x y < 0) ∧ ∀ x, x ∈ (cpU ps m).map Prod.snd ↔ ∃ j, ∃ h : j < ps.length, j < m ∧ ps[j].2 = x
  | 0, _ => ⟨by simp [cpU], fun x => by simp [cpU]⟩
  | m + 1, hm => by
    obtain ⟨h1, h2⟩ := cpU_asc O hs m (by omega)
    by_cases hk : m = 0 ∨ ps[m].2 ≠ (ps[m - 1]'(by omega)).2
    · rw [cpU_keep (by omega) hk, List.map_append, List.map_cons, List.map_nil]
      refine ⟨List.pairwise_append.2 ⟨h1, by simp, fun x hx y hy => ?_⟩, fun x => ?_⟩
      · rw [List.mem_singleton] at hy
        subst hy
        obtain ⟨j, hj, hjm, rfl⟩ := (h2 x).1 hx
        have hne : o (ps[m - 1]'(by omega)).2 ps[m].2 < 0 := by
          have hle := List.pairwise_iff_getElem.1 hs (m - 1) m (by omega) (by omega) (by omega)
          have : o (ps[m - 1]'(by omega)).2 ps[m].2 ≠ 0 := fun e => by
            rw [O.zero] at e
            rcases hk with hk | hk
            · omega
            · exact hk e.symm
          omega
        by_cases e : j = m - 1
        · subst e; exact hne
        · have h3 := List.pairwise_iff_getElem.1 hs j (m - 1) (by omega) (by omega) (by omega)
          have h4 := (O.trans ps[j].2 (ps[m - 1]'(by omega)).2 ps[m].2).1 h3 (Int.le_of_lt hne)
          have h5 : o ps[j].2 ps[m].2 ≠ 0 := fun e => by
            rw [O.zero] at e
            rw [e] at h3
            have := O.neg (ps[m - 1]'(by omega)).2 ps[m].2
            omega
          omega
      · rw [List.mem_append, List.mem_singleton, h2]
        constructor
        · rintro (⟨j, hj, hjm, e⟩ | e)
          · exact ⟨j, hj, by omega, e⟩
          · exact ⟨m, by omega, by omega, e.symm⟩
        · rintro ⟨j, hj, hjm, e⟩
          by_cases h : j = m
          · subst h; exact .inr e.symm
          · exact .inl ⟨j, hj, by omega, e⟩
    · have hk' : m ≠ 0 ∧ ps[m].2 = (ps[m - 1]'(by omega)).2 := by
        refine ⟨fun e => hk (.inl e), Classical.byContradiction fun e => hk (.inr e)⟩
      rw [cpU_drop (by omega) hk'.1 hk'.2]
      refine ⟨h1, fun x => (h2 x).trans ⟨fun ⟨j, hj, hjm, e⟩ => ⟨j, hj, by omega, e⟩, fun ⟨j, hj, hjm, e⟩ => ?_⟩⟩
      by_cases h : j = m
      · subst h
        exact ⟨j - 1, by omega, by omega, by rw [← hk'.2]; exact e⟩
      · exact ⟨j, hj, by omega, e⟩
theorem cpU_all {o : List Int → List Int → Int} (O : TotO o) {ps : List (α × List Int)} (hs : SrtP o ps) :
    ((cpU ps ps.length).map Prod.snd).Pairwise (fun x y => o x y < 0) ∧ ∀ x, x ∈ (cpU ps ps.length).map Prod.snd ↔ x ∈ ps.map Prod.snd := by
  obtain ⟨h1, h2⟩ := cpU_asc O hs ps.length (Nat.le_refl _)
  refine ⟨h1, fun x => (h2 x).trans ?_⟩
  constructor
  · rintro ⟨j, hj, _, rfl⟩
    exact List.mem_map_of_mem (List.getElem_mem hj)
  · intro h
    obtain ⟨p, hp, rfl⟩ := List.mem_map.1 h
    obtain ⟨j, hj, rfl⟩ := List.getElem_of_mem hp
    exact ⟨j, hj, hj, rfl⟩
theorem ascW_of {l : List (List Int)} (h : l.Pairwise fun x y => shlex x y < 0) : AscW l := h
theorem ascL_of {l : List (List Int)} (h : l.Pairwise fun x y => lexi x y < 0) : AscL l := h.imp fun h => by rw [lexi_lexR] at h; exact h
/-- A sorted row without repetition is ascending. -/
theorem srt_asc {o : List Int → List Int → Int} (O : TotO o) {l : List (List Int)} (hs : l.Pairwise fun x y => o x y ≤ 0) (hn : l.Nodup) : l.Pairwise fun x y => o x y < 0 :=
  (List.pairwise_and_iff.2 ⟨hs, hn⟩).imp fun {a b} ⟨h1, h2⟩ => by
    have : o a b ≠ 0 := fun e => h2 ((O.zero a b).1 e)
    omega

theorem cpU_keep' {ps : List (α × List Int)} {m : Nat} {p q : α × List Int} (hp : ps[m]? = some p) (hq : ps[m - 1]? = some q) (h : p.2 ≠ q.2) : cpU ps (m + 1) = cpU ps m ++ [p] := by
  rw [cpU, hp, hq, if_pos (.inr (by simpa using h))]; rfl
theorem cpU_drop' {ps : List (α × List Int)} {m : Nat} {p q : α × List Int} (hp : ps[m]? = some p) (hq : ps[m - 1]? = some q) (h0 : m ≠ 0) (h : p.2 = q.2) : cpU ps (m + 1) = cpU ps m := by
  rw [cpU, hp, hq, if_neg]
  simp [h0, h]
theorem cpU_one {ps : List (α × List Int)} (h : ps.length ≤ 1) : cpU ps ps.length = ps := by
  match ps, h with
  | [], _ => rfl
  | [p], _ => rfl
  | p :: q :: r, h => simp at h
theorem cpU_first {ps : List (α × List Int)} (h : 1 ≤ ps.length) : cpU ps 1 = ps.take 1 := by
  match ps, h with
  | p :: r, _ => simp [cpU]
end Go.Proofs.Ytedcdpmflcegbaa
end

section
/- arrange: the headers of a row sorted by an order of their words. -/
namespace Go.Proofs.Ytedcdpmflcegbaa
open Go.RowKit Go.Shelf Go.Sort Go.Lib

/-- A header's parts and the list that it reads as. -/
abbrev HS := (Option Addr × Nat × Nat) × List Int
/-- A header that reads as its list, outside the block g. -/
def GoodIn (w : World) (g : Nat) (x : HS) : Prop := Ints w x.1.1 x.1.2.1 x.2 ∧ ∀ a, x.1.1 = some a → 0 < x.1.2.1 → a.block ≠ g
def GIn (w : World) (g : Nat) : Type := {x : HS // GoodIn w g x}
instance (w : World) (g : Nat) : Inhabited (GIn w g) := ⟨⟨((none, 0, 0), []), ⟨Ints.none_ w, fun _ h => by cases h⟩⟩⟩
def encG {w : World} {g : Nat} (x : GIn w g) : Value := .slice x.1.1.1 x.1.1.2.1 x.1.1.2.2
def toHL {w : World} {g : Nat} (x : GIn w g) : HL := (encG x, x.1.2)

/-- The header p reads as its list, outside the block of v. -/
def InOff (w : World) (g : Option Nat) (p : HL) : Prop := ∃ A n c, p.1 = .slice A n c ∧ Ints w A n p.2 ∧ ∀ a, A = some a → 0 < n → some a.block ≠ g

theorem exists_gin {w : World} {g : Nat} {ps : List HL} (h : ∀ p, p ∈ ps → InOff w (some g) p) : ∃ ds : List (GIn w g), ds.map toHL = ps := by
  induction ps with
  | nil => exact ⟨[], rfl⟩
  | cons p ps ih =>
    obtain ⟨ds, hd⟩ := ih fun q hq => h q (List.mem_cons_of_mem _ hq)
    obtain ⟨A, n, c, e, hi, ho⟩ := h p List.mem_cons_self
    have hx : GoodIn w g ((A, n, c), p.2) := ⟨hi, fun a ha hn e2 => ho a ha hn (by rw [e2])⟩
    have ht : toHL (⟨_, hx⟩ : GIn w g) = p := by
      show (Value.slice A n c, p.2) = p
      rw [← e]
    exact ⟨(⟨_, hx⟩ : GIn w g) :: ds, congr (congrArg List.cons ht) hd⟩

theorem swo_of {o : List Int → List Int → Int} (O : TotO o) {α : Type} (f : α → List Int) : SWO (fun x y : α => decide (o (f x) (f y) < 0)) where
  irrefl x := by have := (O.zero (f x) (f x)).2 rfl; simp; omega
  trans x y z h1 h2 := by
    simp only [decide_eq_true_eq] at *
    exact (O.trans _ _ _).2 h1 (Int.le_of_lt h2)
  ntrans x y z h1 h2 := by
    simp only [decide_eq_false_iff_not] at *
    have a := O.neg (f x) (f y)
    have b := O.neg (f y) (f z)
    have c := O.neg (f x) (f z)
    have d := (O.trans (f z) (f y) (f x)).1 (by omega) (by omega)
    omega

noncomputable def siT : TypeInfo := (Try.prog.info? 22).get (by kernel_rfl)
noncomputable def siE : TypeInfo := (Try.prog.info? 27).get (by kernel_rfl)
theorem siK (n : Nat) (h2 : 2 ≤ n) : Lib.swapperK n siE 23 = 9 := by
  have a : siE.hasPointers = true := by kernel_rfl
  have b : siE.bytes = 24 := by kernel_rfl
  have c : (n == 0) = false := by simp; omega
  have d : (n == 1) = false := by simp; omega
  simp [Lib.swapperK, a, b, c, d]
theorem siK0 : Lib.swapperK 0 siE 23 = 1 := by simp [Lib.swapperK]
theorem siK1 : Lib.swapperK 1 siE 23 = 2 := by simp [Lib.swapperK]
theorem renS : Try.laysGg6_ren.f 6 = 65 := rfl

/-- The world in which arrange calls sort.Slice. -/
def arrW (w : World) (v : Value) (f : Nat) : World := (w.alloc (.cells #[v] 22)).alloc (.cells #[.func (.func f) #[] #[]] 56)
theorem arrW_below (w : World) (v : Value) (f : Nat) : Below w.heap.size w (arrW w v f) := ((Below.refl _ _).alloc (Nat.le_refl _) _).alloc (by simp) _
theorem arrW_size (w : World) (v : Value) (f : Nat) : (arrW w v f).heap.size = w.heap.size + 2 := by simp [arrW]

set_option maxHeartbeats 1000000 in
set_option maxRecDepth 100000 in
theorem sortS (f : Nat) (o : List Int → List Int → Int) (O : TotO o) (ef : ∀ args w, (callFunc f args).run Try.prog w = .ok (.enter f args) w) (hord : OrdC f o) (w : World) (g c : Nat) (d : Array (GIn w g)) (h2 : 2 ≤ d.size) (hn : d.size ≤ 17592186044416)
    (hH : Holds encG w g 0 d) (hg : g < w.heap.size) :
    Calls Try.prog 65 #[.iface 22 (.slice (some ⟨g, 0, none⟩) d.size c), .func (.func 64) #[] #[.pointer (some ⟨w.heap.size + 1, 0, none⟩), .pointer (some ⟨w.heap.size, 0, none⟩)]] (arrW w (.slice (some ⟨g, 0, none⟩) d.size c) f) fun e w' =>
      e = .returned (.tuple #[]) ∧ ∃ d' n os, PermIn 0 d.size d d' ∧ SortedIn (fun x y : GIn w g => decide (o x.1.2 y.1.2 < 0)) 0 d.size d' ∧ w' = grow (putRow encG (Sort.ahead (arrW w (.slice (some ⟨g, 0, none⟩) d.size c) f) n) g 0 d') os := by
  have hb := arrW_below w (.slice (some ⟨g, 0, none⟩) d.size c) f
  have hsz := arrW_size w (.slice (some ⟨g, 0, none⟩) d.size c) f
  have hcw : (arrW w (.slice (some ⟨g, 0, none⟩) d.size c) f).cell? ⟨w.heap.size, 0, none⟩ = some (.slice (some ⟨g, 0, none⟩) d.size c) := by simp [arrW]
  have hco : (arrW w (.slice (some ⟨g, 0, none⟩) d.size c) f).cell? ⟨w.heap.size + 1, 0, none⟩ = some (.func (.func f) #[] #[]) := by simp [arrW]
  generalize arrW w (.slice (some ⟨g, 0, none⟩) d.size c) f = W at hb hsz hcw hco
  have hH1 : Holds encG W g 0 d := fun j hj => ⟨(hb.cell (p := ⟨g, 0 + j, none⟩) hg).trans (hH j hj).1, (hb.frozen (p := ⟨g, 0 + j, none⟩) hg).trans (hH j hj).2⟩
  have hg1 : g < W.heap.size := by omega
  have hless : LessReads Try.prog 64 #[.pointer (some ⟨w.heap.size + 1, 0, none⟩), .pointer (some ⟨w.heap.size, 0, none⟩)] encG (fun x y : GIn w g => decide (o x.1.2 y.1.2 < 0)) g 0 d.size W := by
    intro m os dk hs i j hi hj
    have e : sortWorld encG W g 0 m dk os = putRow encG (grow (Sort.ahead W m) os) g 0 dk := by
      unfold sortWorld; rw [putRow_grow _ (Sort.ahead W m) _ g 0 _ hg1]
    have hHg : Holds encG (grow (Sort.ahead W m) os) g 0 d := holds_grow _ _ _ g 0 d hg1 (holds_ahead _ _ _ _ _ _ hH1)
    have oth : ∀ a : Addr, a.block ≠ g → a.block < W.heap.size → (sortWorld encG W g 0 m dk os).cell? a = W.cell? a := fun a ha hlt => by
      rw [e, cell?_putRow_other _ _ g 0 dk _ (Or.inl ha)]; exact cell?_grow (Sort.ahead W m) os a hlt
    have hin : ∀ x : GIn w g, Ints (sortWorld encG W g 0 m dk os) x.1.1.1 x.1.1.2.1 x.1.2 := fun x => by
      refine ⟨x.2.1.1, x.2.1.2.1, fun h0 => ?_⟩
      obtain ⟨b, off, e1, hlt, hc⟩ := x.2.1.2.2 h0
      have hbg : b ≠ g := x.2.2 _ e1 h0
      refine ⟨b, off, e1, ?_, fun k hk => ?_⟩
      · have h0 := (oth ⟨b, off + 0, none⟩ hbg (by show b < W.heap.size; omega)).trans ((hb.cell (p := ⟨b, off + 0, none⟩) hlt).trans (hc 0 h0))
        exact block_lt h0
      · exact (oth ⟨b, off + k, none⟩ hbg (by show b < W.heap.size; omega)).trans ((hb.cell (p := ⟨b, off + k, none⟩) hlt).trans (hc k hk))
    refine pless f o ef hord g d.size c (w.heap.size + 1) w.heap.size i j _ ?_ ?_ hi hj _ _ _ dk[i]!.1.1.2.2 _ dk[j]!.1.1.2.2 _ _ ?_ ?_ (hin dk[i]!) (hin dk[j]!)
    · exact (oth ⟨w.heap.size + 1, 0, none⟩ (by show w.heap.size + 1 ≠ g; omega) (by show w.heap.size + 1 < W.heap.size; omega)).trans hco
    · exact (oth ⟨w.heap.size, 0, none⟩ (by show w.heap.size ≠ g; omega) (by show w.heap.size < W.heap.size; omega)).trans hcw
    · rw [e]; exact cell?_putRow _ _ g 0 d dk hHg hs i (by omega)
    · rw [e]; exact cell?_putRow _ _ g 0 d dk hHg hs j (by omega)
  exact Any.sort_Slice_sorted Try.laysGg6 22 27 siT siE (by kernel_rfl) (by kernel_rfl) (by kernel_rfl) (by kernel_rfl) 23 (fun _ => by kernel_rfl) (by kernel_rfl) (fun _ => by kernel_rfl) encG (fun _ => rfl) _ (swo_of O fun x : GIn w g => x.1.2) 64 _
    (enters_of Try.func64 (by kernel_rfl) rfl) g 0 c d h2 (by omega) 88 (by rw [siK _ h2]; kernel_rfl) false
    (fun args W => run_callFunc_extern Try.func88 (by kernel_rfl) (by kernel_rfl) (by kernel_rfl) (e := Extern.ReflectliteSwapper.swap false) (by kernel_rfl) args W) _ hless hH1 hg1
end Go.Proofs.Ytedcdpmflcegbaa
end

section
/- arrange: its contract. -/
namespace Go.Proofs.Ytedcdpmflcegbaa
open Go.RowKit Go.Shelf Go.Sort Go.Lib

theorem permIn_all {α : Type} [Inhabited α] {d d' : Array α} (h : PermIn 0 d.size d d') : d'.toList.Perm d.toList := by
  have h3 := h.2.2
  have e1 : d'.extract 0 d.size = d' := by rw [← h.1]; exact Array.extract_size
  have e2 : d.extract 0 d.size = d := Array.extract_size
  rw [e1, e2] at h3
  exact h3
theorem sortedIn_all {α : Type} [Inhabited α] {lt : α → α → Bool} {n : Nat} {d : Array α} (hn : d.size = n) (h : SortedIn lt 0 n d) : d.toList.Pairwise fun x y => lt y x = false := by
  subst hn
  refine List.pairwise_iff_getElem.2 fun i j hi hj hij => ?_
  have := h i j (Nat.zero_le _) hij (by simpa using hj)
  rw [getElem!_pos d j (by simpa using hj), getElem!_pos d i (by simpa using hi)] at this
  simpa using this

/-- arrange, at two words or more. -/
theorem parr2 (f : Nat) (o : List Int → List Int → Int) (O : TotO o) (ef : ∀ args w, (callFunc f args).run Try.prog w = .ok (.enter f args) w) (hord : OrdC f o) (w : World) (base g c : Nat) (ps : List HL) (h2 : 2 ≤ ps.length) (hn : ps.length ≤ 17592186044416)
    (h : HRow w base (.slice (some ⟨g, 0, none⟩) ps.length c) ps) (hin : ∀ p, p ∈ ps → InOff w (some g) p) :
    Calls Try.prog 65 #[.iface 22 (.slice (some ⟨g, 0, none⟩) ps.length c), .func (.func 64) #[] #[.pointer (some ⟨w.heap.size + 1, 0, none⟩), .pointer (some ⟨w.heap.size, 0, none⟩)]] (arrW w (.slice (some ⟨g, 0, none⟩) ps.length c) f) fun e w' =>
      e = .returned (.tuple #[]) ∧ ∃ ps', ps'.Perm ps ∧ SrtP o ps' ∧ HRow w' base (.slice (some ⟨g, 0, none⟩) ps.length c) ps' ∧ w.grownBy w' (some g) := by
  obtain ⟨ds, rfl⟩ := exists_gin hin
  rw [List.length_map] at h h2 hn ⊢
  have hrow : w.ownsRow base 27 1 (.slice (some ⟨g, 0, none⟩) ds.length c) ds.length (ds.map encG) := by
    have := h.1
    rw [List.length_map, List.map_map] at this
    exact this
  obtain ⟨g', cap', e, hbg, hlt, _, _, _, hH⟩ := holds_of_ownsRow hrow (by simp)
  cases e
  have hs := sortS f o O ef hord w g c ds.toArray (by simpa using h2) (by simpa using hn) hH hlt
  rw [List.size_toArray] at hs
  refine hs.mono ?_
  rintro e w' ⟨rfl, d', n, os, hP, hS, rfl⟩
  have hsz : d'.size = ds.length := by have := hP.1; simpa using this
  have hb := arrW_below w (.slice (some ⟨g, 0, none⟩) ds.length c) f
  have hperm : d'.toList.Perm ds := by
    have := permIn_all (d := ds.toArray) (d' := d') (by rw [List.size_toArray]; exact hP)
    simpa using this
  refine ⟨rfl, d'.toList.map toHL, hperm.map _, ?_, ⟨?_, fun p hp => ?_⟩, ?_⟩
  · have := sortedIn_all hsz hS
    unfold SrtP
    rw [List.pairwise_map]
    refine this.imp fun {a b} hab => ?_
    have h1 : ¬ o b.1.2 a.1.2 < 0 := by simpa using hab
    have h2 := O.neg a.1.2 b.1.2
    show o a.1.2 b.1.2 ≤ 0
    omega
  · have hrow1 : (arrW w (.slice (some ⟨g, 0, none⟩) ds.length c) f).ownsRow base 27 1 (.slice (some ⟨g, 0, none⟩) ds.length c) ds.length (ds.map encG) := by
      have := (HRow.kept h hb).1
      rw [List.length_map, List.map_map] at this
      exact this
    have hput := ownsRow_putRow (q := n) (k := ds.length) (ys := d'.toList) hrow1 (by simpa using hsz) (Nat.le_refl _)
    rw [List.take_of_length_le (by simp; omega)] at hput
    have hg2 := hput.kept (w' := grow (putRow encG (Sort.ahead (arrW w (.slice (some ⟨g, 0, none⟩) ds.length c) f) n) g 0 d') os) (row := none) ⟨rfl, rfl, rfl, by simp [grow], fun k hk _ => heap_grow_old _ _ hk⟩ (.inr (by simp [Value.ownBlock]))
    rw [List.length_map, List.map_map]
    have hl : d'.toList.length = ds.length := by simpa using hsz
    rw [hl]
    exact hg2
  · obtain ⟨x, _, rfl⟩ := List.mem_map.1 hp
    exact ⟨_, _, _, rfl⟩
  · have hsize := arrW_size w (.slice (some ⟨g, 0, none⟩) ds.length c) f
    have hgb : (arrW w (.slice (some ⟨g, 0, none⟩) ds.length c) f).grownBy (grow (putRow encG (Sort.ahead (arrW w (.slice (some ⟨g, 0, none⟩) ds.length c) f) n) g 0 d') os) (some g) := by
      refine ⟨rfl, rfl, rfl, by simp [grow, putRow, mapBlock, Sort.ahead], fun k hk hne => ?_⟩
      rw [heap_grow_old _ _ (by simpa [putRow, mapBlock, Sort.ahead] using hk)]
      simp [putRow, mapBlock, Sort.ahead, Array.getElem?_modify, show g ≠ k from fun e => hne (by rw [e])]
    exact ⟨hgb.os.trans hb.os, hgb.tape.trans hb.tape, hgb.output.trans hb.output, Nat.le_trans hb.size hgb.size, fun k hk hne => (hgb.block k (Nat.lt_of_lt_of_le hk hb.size) hne).trans (hb.block k hk)⟩

/-- .. at one word or none. -/
theorem parr1 (f : Nat) (w : World) (A : Option Addr) (n c : Nat) (hn : n ≤ 1) :
    Calls Try.prog 65 #[.iface 22 (.slice A n c), .func (.func 64) #[] #[.pointer (some ⟨w.heap.size + 1, 0, none⟩), .pointer (some ⟨w.heap.size, 0, none⟩)]] (arrW w (.slice A n c) f) fun e w' =>
      e = .returned (.tuple #[]) ∧ Below w.heap.size w w' := by
  have hb := arrW_below w (.slice A n c) f
  have key : ∀ m (hm : m ≤ 1) (F : Nat) (hF : Try.prog.funcs.findIdx? (·.name == "internal/reflectlite" ++ ".Swapper$" ++ toString (Lib.swapperK m siE 23)) = some F), Calls Try.prog 65 #[.iface 22 (.slice A m c), .func (.func 64) #[] #[.pointer (some ⟨w.heap.size + 1, 0, none⟩), .pointer (some ⟨w.heap.size, 0, none⟩)]] (arrW w (.slice A n c) f) fun e w' => e = .returned (.tuple #[]) ∧ ∃ os, w' = grow (arrW w (.slice A n c) f) os :=
    fun m hm F hF => Any.sort_Slice_tiny Try.laysGg6 22 27 siT siE (by kernel_rfl) (by kernel_rfl) (by kernel_rfl) (by kernel_rfl) 23 (fun _ => by kernel_rfl) A m c hm F hF _ _ _ _
  have hres : ∀ m, m ≤ 1 → Calls Try.prog 65 #[.iface 22 (.slice A m c), .func (.func 64) #[] #[.pointer (some ⟨w.heap.size + 1, 0, none⟩), .pointer (some ⟨w.heap.size, 0, none⟩)]] (arrW w (.slice A n c) f) fun e w' => e = .returned (.tuple #[]) ∧ ∃ os, w' = grow (arrW w (.slice A n c) f) os := fun m hm => by
    rcases Nat.le_one_iff_eq_zero_or_eq_one.1 hm with rfl | rfl
    · exact key 0 (by omega) 80 (by rw [siK0]; kernel_rfl)
    · exact key 1 (by omega) 81 (by rw [siK1]; kernel_rfl)
  refine (hres n hn).mono ?_
  rintro e w' ⟨rfl, os, rfl⟩
  exact ⟨rfl, hb.os, hb.tape, hb.output, by have := hb.size; simp [grow]; omega, fun k hk => (heap_grow_old _ _ (Nat.lt_of_lt_of_le hk hb.size)).trans (hb.block k hk)⟩

theorem grownBy_of_below {w w' : World} (h : Below w.heap.size w w') (row : Option Nat) : w.grownBy w' row := ⟨h.os, h.tape, h.output, h.size, fun k hk _ => h.block k hk⟩

set_option maxHeartbeats 1000000 in
/-- arrange: the row holds the same headers, sorted; nothing else has turned. -/
theorem parrange (f : Nat) (o : List Int → List Int → Int) (O : TotO o) (ef : ∀ args w, (callFunc f args).run Try.prog w = .ok (.enter f args) w) (hord : OrdC f o) (w : World) (base : Nat) (A : Option Addr) (n c : Nat) (ps : List HL) (hn : n ≤ 17592186044416)
    (h : HRow w base (.slice A n c) ps) (hin : ∀ p, p ∈ ps → InOff w (Value.ownBlock (.slice A n c)) p) :
    Calls Try.prog 49 #[.slice A n c, .func (.func f) #[] #[]] w fun e w' =>
      e = .returned (.tuple #[]) ∧ ∃ ps', ps'.Perm ps ∧ SrtP o ps' ∧ HRow w' base (.slice A n c) ps' ∧ w.grownBy w' (Value.ownBlock (.slice A n c)) := by
  have hl : ps.length = n := by obtain ⟨A', c', e⟩ := h.form; cases e; rfl
  have hS : Calls Try.prog 65 #[.iface 22 (.slice A n c), .func (.func 64) #[] #[.pointer (some ⟨w.heap.size + 1, 0, none⟩), .pointer (some ⟨w.heap.size, 0, none⟩)]] (arrW w (.slice A n c) f) fun e w' =>
      e = .returned (.tuple #[]) ∧ ∃ ps', ps'.Perm ps ∧ SrtP o ps' ∧ HRow w' base (.slice A n c) ps' ∧ w.grownBy w' (Value.ownBlock (.slice A n c)) := by
    by_cases h2 : 2 ≤ n
    · rcases h.1.2 with ⟨e, h0⟩ | ⟨g, cap, cur, e, _⟩
      · omega
      · cases e
        exact parr2 f o O ef hord w base g c ps h2 hn h hin
    · refine (parr1 f w A n c (by omega)).mono ?_
      rintro e w' ⟨rfl, hb⟩
      refine ⟨rfl, ps, List.Perm.refl _, ?_, h.kept hb, grownBy_of_below hb _⟩
      unfold SrtP
      match ps, hl with
      | [], _ => exact List.Pairwise.nil
      | [p], _ => simp
      | p :: q :: r, hl => simp at hl; omega
  unfold arrW at hS
  have HS := Lib.hid hS
  clear hS hin h hl
  go_enter Try.func49, Try.ntmps49
  go_wp2_with (go_at_call 65; refine HS.out.mono ?_; rintro e w' ⟨rfl, hx⟩)
  go_end0
  exact ⟨rfl, hx⟩
end Go.Proofs.Ytedcdpmflcegbaa
end

section
/- slices.Equal of lists of numbers. -/
namespace Go.Proofs.Ytedcdpmflcegbaa
open Go.RowKit Go.Shelf

theorem entE : ∀ args w, (callFunc 72 args).run Try.prog w = .ok (.enter 72 args) w := enters_of Try.func72 (by kernel_rfl) rfl
theorem eq_of_agree {xs ys : List Int} (h : xs.length = ys.length) (ha : Agree xs ys xs.length) : xs = ys := by
  refine (cmn_full h).1 ?_
  exact cmn_eq (Nat.le_refl _) (by omega) ha (.inl rfl)

set_option maxHeartbeats 1000000 in
theorem sequal (A B : Option Addr) (n c m d : Nat) (xs ys : List Int) (b : Bool) (w : World) (hx : Ints w A n xs) (hy : Ints w B m ys) (hb : b = decide (xs = ys)) :
    Calls Try.prog 72 #[.slice A n c, .slice B m d] w fun e w' => e = .returned (.bool b) ∧ ∃ q, w' = w.drewN q := by
  have L1 := Lib.hid hx.1
  have L2 := Lib.hid hy.1
  have hn := hx.2.1
  have hm := hy.2.1
  have HB := Lib.hid hb
  clear hb
  by_cases h : n = m
  · subst h
    have hne : ((n : Int) != (n : Int)) = false := by simp
    go_enter Try.func72, Try.ntmps72
    go_wp2
    go_loopw [13] (fun i wr => ∃ j : Nat, j ≤ n ∧ i = .int .i64 j ∧ Agree xs ys j ∧ ∃ q, wr = w.drewN q) (fun i _ => n - (intOf i).toNat)
    case atStart => exact ⟨0, Nat.zero_le _, rfl, Agree.zero _ _, 0, rfl⟩
    case round =>
      obtain ⟨j, hj, rfl, ha, q, rfl⟩ := hrel
      by_cases hlt : j < n
      · obtain ⟨b1, o1, rfl, _, hc1⟩ := hx.at_ (k := j) (by omega)
        obtain ⟨b2, o2, rfl, _, hc2⟩ := hy.at_ (k := j) (by omega)
        have i1 : (j : Int) < (n : Int) := by omega
        have i0 : (0 : Int) ≤ (j : Int) := by omega
        by_cases he : xs[j]?.getD 0 = ys[j]?.getD 0
        · have ha' := Lib.hid (ha.succ (by simpa using he))
          have hz : (xs[j]?.getD 0 != ys[j]?.getD 0) = false := by simp [he]
          have hE := Lib.hid he
          clear he ha
          go_wp2
          go_quiet (fail)
          go_wp2
          go_roundw
          case rel => exact ⟨j + 1, by omega, by go_num, ha'.out, by first | exact ⟨_, rfl⟩ | exact ⟨_, World.drewN_drewN _ _ _⟩⟩
          case measure => simp [intOf]; omega
        · have hz : (xs[j]?.getD 0 != ys[j]?.getD 0) = true := by simp [he]
          have hfin := Lib.hid (show b = false by
            rw [HB.out, decide_eq_false_iff_not]
            intro e; exact he (by rw [e]))
          clear he ha
          go_wp2
          go_quiet (fail)
          go_wp2
          go_ret
          exact ⟨by rw [hfin.out]; rfl, by first | exact ⟨_, rfl⟩ | exact ⟨_, World.drewN_drewN _ _ _⟩⟩
      · obtain rfl : j = n := by omega
        have hfin := Lib.hid (show b = true by
          rw [HB.out, decide_eq_true_eq]
          exact eq_of_agree (by rw [L1.out, L2.out]) (by rw [L1.out]; exact ha))
        clear ha
        go_wp2
        go_ret
        exact ⟨by rw [hfin.out]; rfl, _, rfl⟩
  · have hne : ((n : Int) != (m : Int)) = true := by simp; omega
    have hfin := Lib.hid (show b = false by
      rw [HB.out, decide_eq_false_iff_not]
      intro e; apply h; rw [← L1.out, ← L2.out, e])
    go_enter Try.func72, Try.ntmps72
    go_wp2
    go_ret
    exact ⟨by rw [hfin.out]; rfl, 0, rfl⟩
end Go.Proofs.Ytedcdpmflcegbaa
end

section
/- slices.CompactFunc of a row of headers: one of each run of equal words. -/
namespace Go.Proofs.Ytedcdpmflcegbaa
open Go.RowKit Go.Shelf

theorem InOff.grown {w w' : World} {g : Option Nat} {p : HL} (h : InOff w g p) (hg : w.grownBy w' g) : InOff w' g p := by
  obtain ⟨A, n, c, e, hi, ho⟩ := h
  refine ⟨A, n, c, e, ⟨hi.1, hi.2.1, fun h0 => ?_⟩, ho⟩
  obtain ⟨b, off, e1, hlt, hc⟩ := hi.2.2 h0
  have hne : some b ≠ g := ho ⟨b, off, none⟩ e1 h0
  exact ⟨b, off, e1, Nat.lt_of_lt_of_le hlt hg.size, fun j hj => hg.cell (a := ⟨b, off + j, none⟩) (hc j hj) hne⟩
theorem InOff.drewN {w : World} {g : Option Nat} {p : HL} (h : InOff w g p) (q : Nat) : InOff (w.drewN q) g p := h
theorem HRow.at_ {w : World} {base g n c : Nat} {ps : List HL} (h : HRow w base (.slice (some ⟨g, 0, none⟩) n c) ps) (hin : ∀ p, p ∈ ps → InOff w (some g) p) {j : Nat} (hj : j < n) :
    ∃ B m d xs, ps[j]? = some (.slice B m d, xs) ∧ w.cell? ⟨g, j, none⟩ = some (.slice B m d) ∧ Ints w B m xs ∧ w.frozen? ⟨g, j, none⟩ = false := by
  have hl : ps.length = n := by obtain ⟨A', c', e⟩ := h.form; cases e; rfl
  have hp : ps[j]? = some ps[j] := List.getElem?_eq_getElem (by omega)
  obtain ⟨B, m, d, e, hi, _⟩ := hin ps[j] (List.getElem_mem _)
  have hr := h.1
  refine ⟨B, m, d, ps[j].2, by rw [hp, ← e], ?_, hi, ?_⟩
  · rw [hl] at hr
    rw [World.ownsRow.cellAt hr j (by omega), List.getElem?_map, hp, ← e]; rfl
  · rcases hr.2 with ⟨e1, _⟩ | ⟨g', cap, cur, e1, _, hg, _⟩
    · cases e1
    · cases e1
      exact frozen_of_row w g j cur 27 hg
theorem HRow.cap {w : World} {base g n c : Nat} {ps : List HL} (h : HRow w base (.slice (some ⟨g, 0, none⟩) n c) ps) : n ≤ c ∧ base ≤ g ∧ g < w.heap.size := by
  rcases h.1.2 with ⟨e1, _⟩ | ⟨g', cap, cur, e1, hb, hg, hc, _⟩
  · cases e1
  · have hl : ps.length = n := by obtain ⟨A', c', e⟩ := h.form; cases e; rfl
    cases e1
    exact ⟨by omega, hb, heap_lt hg⟩
theorem HRow.stored {w : World} {base g n c : Nat} {ps : List HL} (h : HRow w base (.slice (some ⟨g, 0, none⟩) n c) ps) (j : Nat) (B : Option Addr) (m d : Nat) (xs : List Int) :
    HRow (w.setCell ⟨g, j, none⟩ (.slice B m d)) base (.slice (some ⟨g, 0, none⟩) n c) (ps.set j (.slice B m d, xs)) := by
  refine ⟨?_, fun p hp => ?_⟩
  · have hl : ps.length = n := by obtain ⟨A', c', e⟩ := h.form; cases e; rfl
    have h1 := h.1
    rw [hl] at h1
    have := (World.ownsRow.stored h1 j (.slice B m d)).1
    rw [List.length_set, List.map_set, hl]
    exact this
  · rcases List.mem_or_eq_of_mem_set hp with hp | rfl
    · exact h.2 p hp
    · exact ⟨B, m, d, rfl⟩
theorem HRow.storedBy {w : World} {base g n c : Nat} {ps : List HL} (h : HRow w base (.slice (some ⟨g, 0, none⟩) n c) ps) (j : Nat) (u : Value) : w.grownBy (w.setCell ⟨g, j, none⟩ u) (some g) := by
  have hl : ps.length = n := by obtain ⟨A', c', e⟩ := h.form; cases e; rfl
  have h1 := h.1
  rw [hl] at h1
  exact (World.ownsRow.stored h1 j u).2
/-- A row cut to its first m cells. -/
theorem HRow.cut {w : World} {base g n c m : Nat} {ps : List HL} (h : HRow w base (.slice (some ⟨g, 0, none⟩) n c) ps) (hm : m ≤ n) : HRow w base (.slice (some ⟨g, 0, none⟩) m c) (ps.take m) := by
  have hl : ps.length = n := by obtain ⟨A', c', e⟩ := h.form; cases e; rfl
  refine ⟨?_, fun p hp => h.2 p (List.mem_of_mem_take hp)⟩
  rw [List.length_take, hl, Nat.min_eq_left hm]
  refine ⟨by simp [hl]; omega, ?_⟩
  rcases h.1.2 with ⟨e1, _⟩ | ⟨g', cap, cur, e1, hb, hg, hc, h1, h2, h3⟩
  · cases e1
  · cases e1
    refine .inr ⟨g, c, cur, rfl, hb, hg, by omega, h1, h2, ?_⟩
    rw [hl] at h3
    rw [Nat.mul_one] at h3 ⊢
    rw [List.map_take, ← h3, List.take_take, Nat.min_eq_left hm]
/-- Cells behind the row's end are set. -/
theorem HRow.setCells {base g m c : Nat} {ps : List HL} : ∀ (vs : List Value) (w : World) (j : Nat), m ≤ j → HRow w base (.slice (some ⟨g, 0, none⟩) m c) ps → HRow (w.setCells g j vs) base (.slice (some ⟨g, 0, none⟩) m c) ps ∧ w.grownBy (w.setCells g j vs) (some g)
  | [], w, _, _, h => ⟨h, World.grownBy.refl w _⟩
  | v :: r, w, j, hj, h => by
    have hl : ps.length = m := by obtain ⟨A', c', e⟩ := h.form; cases e; rfl
    have h0 := h.1
    rw [hl] at h0
    have hs := World.ownsRow.stored h0 j v
    have h1 : HRow (w.setCell ⟨g, j, none⟩ v) base (.slice (some ⟨g, 0, none⟩) m c) ps := by
      refine ⟨?_, h.2⟩
      have h2 := hs.1
      rw [List.set_eq_of_length_le (by simp; omega)] at h2
      rw [hl]; exact h2
    obtain ⟨h3, h4⟩ := HRow.setCells r _ (j + 1) (by omega) h1
    refine ⟨h3, ?_⟩
    exact ⟨h4.os.trans hs.2.os, h4.tape.trans hs.2.tape, h4.output.trans hs.2.output, Nat.le_trans hs.2.size h4.size, fun k hk hne => (h4.block k (Nat.lt_of_lt_of_le hk hs.2.size) hne).trans (hs.2.block k hk hne)⟩
theorem grownBy_trans {w w' w'' : World} {r : Option Nat} (h : w.grownBy w' r) (k : w'.grownBy w'' r) : w.grownBy w'' r :=
  ⟨k.os.trans h.os, k.tape.trans h.tape, k.output.trans h.output, Nat.le_trans h.size k.size, fun i hi hne => (k.block i (Nat.lt_of_lt_of_le hi h.size) hne).trans (h.block i hi hne)⟩
theorem grownBy_drewN {w w' : World} {r : Option Nat} (h : w.grownBy w' r) (q : Nat) : w.grownBy (w'.drewN q) r := ⟨h.os, h.tape, h.output, h.size, h.block⟩
theorem set_take {zs : List HL} {k : Nat} (p : HL) (h : k < zs.length) : (zs.set k p).take (k + 1) = zs.take k ++ [p] := by
  apply List.ext_getElem?
  intro i
  grind
theorem HRow.drewN {w : World} {base : Nat} {v : Value} {ps : List HL} (h : HRow w base v ps) (q : Nat) : HRow (w.drewN q) base v ps := h

theorem HRow.cellOf {w : World} {base g n c : Nat} {ps : List HL} (h : HRow w base (.slice (some ⟨g, 0, none⟩) n c) ps) {j : Nat} {p : HL} (hp : ps[j]? = some p) : w.cell? ⟨g, j, none⟩ = some p.1 ∧ w.frozen? ⟨g, j, none⟩ = false := by
  have hl : ps.length = n := by obtain ⟨A', c', e⟩ := h.form; cases e; rfl
  have hj : j < ps.length := (List.getElem?_eq_some_iff.1 hp).1
  have hr := h.1
  rw [hl] at hr
  refine ⟨by rw [World.ownsRow.cellAt hr j (by omega), List.getElem?_map, hp]; rfl, ?_⟩
  rcases hr.2 with ⟨e1, _⟩ | ⟨g', cap, cur, e1, _, hg, _⟩
  · cases e1
  · cases e1
    exact frozen_of_row w g j cur 27 hg

set_option maxHeartbeats 4000000 in
set_option maxRecDepth 1000000 in
/-- .. at two headers or more. -/
theorem pcpt2 (w : World) (base g n c : Nat) (ps : List HL) (h2 : 2 ≤ n) (hn : n ≤ 17592186044416) (h : HRow w base (.slice (some ⟨g, 0, none⟩) n c) ps) (hin : ∀ p, p ∈ ps → InOff w (some g) p) :
    Calls Try.prog 71 #[.slice (some ⟨g, 0, none⟩) n c, .func (.func 72) #[] #[]] w fun e w' =>
      e = .returned (.slice (some ⟨g, 0, none⟩) (cpU ps ps.length).length c) ∧ HRow w' base (.slice (some ⟨g, 0, none⟩) (cpU ps ps.length).length c) (cpU ps ps.length) ∧ w.grownBy w' (some g) := by
  have hl : ps.length = n := by obtain ⟨A', c', e⟩ := h.form; cases e; rfl
  have L := Lib.hid hl
  obtain ⟨hcap, hbg, hgs⟩ := h.cap
  have H := Lib.hid h
  have HIN := Lib.hid hin
  have eE := entE
  have zE : ∀ w, (zeroValue 27).run Try.prog w = .ok (.slice none 0 0) w := Try.zeroValue27
  clear hl h hin
  go_enter Try.func71, Try.ntmps71
  go_wp2
  go_loopg [5] n (fun gg s5 wr => ∃ k : Nat, 1 ≤ k ∧ k ≤ n ∧ n - k ≤ gg ∧ s5 = .int .i64 k ∧ HRow wr base (.slice (some ⟨g, 0, none⟩) n c) ps ∧ w.grownBy wr (some g) ∧ Hid (cpU ps k = ps.take k))
  case atStart => exact ⟨1, Nat.le_refl _, by omega, by omega, rfl, H.out, World.grownBy.refl w _, Lib.hid (cpU_first (by rw [L.out]; omega))⟩
  case round =>
    obtain ⟨k, hk1, hk, hg, rfl, hR0, hgr0, hall⟩ := hrel
    have HR := Lib.hid hR0
    have HG := Lib.hid hgr0
    have HIR := Lib.hid (fun p hp => (HIN.out p hp).grown hgr0)
    clear hR0 hgr0
    by_cases hlt : k < n
    · obtain ⟨B1, m1, d1, xs, p1, c1, I1, _⟩ := HR.out.at_ HIR.out hlt
      obtain ⟨kp, hkp⟩ : ∃ kp, kp = k - 1 := ⟨_, rfl⟩
      have kpn : kp < n := by omega
      obtain ⟨B0, m0, d0, ys, p0, c0, I0, _⟩ := HR.out.at_ HIR.out kpn
      have W1 : IntKind.i64.wrap ((k : Int) - 1) = (kp : Int) := by rw [IntKind.wrap_i64]; omega
      rw [hkp] at p0
      have KP := Lib.hid hkp
      clear hkp
      have P1 := Lib.hid p1
      have P0 := Lib.hid p0
      have kl : (k : Int) < (n : Int) := by omega
      have hc1 : k < c := by omega
      have PT := Lib.hid (show (ps.take k).length = k by rw [List.length_take, L.out]; omega)
      clear p1 p0
      by_cases hdup : xs = ys
      · have hcall : ∀ q', Calls Try.prog 72 #[.slice B1 m1 d1, .slice B0 m0 d0] (wr.drewN q') fun e w' => e = .returned (.bool true) ∧ ∃ m, w' = (wr.drewN q').drewN m := fun q' => sequal _ _ _ _ _ _ xs ys true _ (I1.drewN q') (I0.drewN q') (by simp [hdup])
        have hdr := cpU_drop' P1.out P0.out (by omega) hdup
        have HD := Lib.hid hdr
        clear I1 I0 hdr hdup
        go_wp2_with fail
        go_quiet ((go_at_fn 72; exact Calls.quiet_of (hcall _)))
        go_wp2
        clear c1 c0 hcall W1
        go_loopg [5, 7] n (fun gg s5 s7 wr => ∃ (kk k2 : Nat) (zs : List HL), s5 = .int .i64 kk ∧ s7 = .int .i64 k2 ∧ 1 ≤ k2 ∧ k + k2 ≤ n ∧ n - (k + k2) ≤ gg ∧ kk < k + k2 ∧ HRow wr base (.slice (some ⟨g, 0, none⟩) n c) zs ∧ Hid (zs.take kk = cpU ps (k + k2)) ∧ Hid (kk = (cpU ps (k + k2)).length) ∧ Hid (∀ j, k + k2 - 1 ≤ j → zs[j]? = ps[j]?) ∧ w.grownBy wr (some g))
        case atStart => exact ⟨k, 1, ps, rfl, rfl, Nat.le_refl _, by omega, by omega, by omega, HR.out.drewN _, Lib.hid (by rw [HD.out, hall.out]), Lib.hid (by rw [HD.out, hall.out, PT.out]), Lib.hid (fun j hj => rfl), grownBy_drewN HG.out _⟩
        case round =>
          obtain ⟨kk, k2, zs, rfl, rfl, h1, hle, hg2, hkk, hR, hT, hK, hhi, hgr⟩ := hrel
          have R2 := Lib.hid hR
          have G2 := Lib.hid hgr
          have LZ := Lib.hid (show zs.length = n by obtain ⟨A', c', e⟩ := hR.form; cases e; rfl)
          clear hR hgr
          by_cases hlt2 : k + k2 < n
          · obtain ⟨Bu, mu, du, us, pu, cu0, Iu0, _⟩ := HR.out.at_ HIR.out (show k + k2 < n by omega)
            obtain ⟨kq, hkq⟩ : ∃ kq, kq = k2 - 1 := ⟨_, rfl⟩
            obtain ⟨Bv, mv, dv, vs, pv, cv0, Iv0, _⟩ := HR.out.at_ HIR.out (show k + kq < n by omega)
            have Iu := Iu0
            have Iv := Iv0
            obtain ⟨Bu', mu', du', e1, Iu, _⟩ := (HIN.out _ (List.mem_of_getElem? pu)).grown G2.out
            cases e1
            obtain ⟨Bv', mv', dv', e1, Iv, _⟩ := (HIN.out _ (List.mem_of_getElem? pv)).grown G2.out
            cases e1
            have zu : zs[k + k2]? = some (.slice Bu mu du, us) := (hhi.out _ (by omega)).trans pu
            have zv : zs[k + kq]? = some (.slice Bv mv dv, vs) := (hhi.out _ (by omega)).trans pv
            have cu := (R2.out.cellOf zu).1
            have cv := (R2.out.cellOf zv).1
            have i3 : kk < n := by omega
            obtain ⟨po, hpo⟩ : ∃ po, zs[kk]? = some po := ⟨_, List.getElem?_eq_getElem (by rw [LZ.out]; exact i3)⟩
            obtain ⟨ck, fk⟩ := R2.out.cellOf hpo
            have W2 : IntKind.i64.wrap ((k2 : Int) - 1) = (kq : Int) := by rw [IntKind.wrap_i64]; omega
            have PU := Lib.hid pu
            have PV := Lib.hid (show ps[k + k2 - 1]? = some (.slice Bv mv dv, vs) by rw [← pv]; congr 1; omega)
            have i1 : k2 < n - k := by omega
            have i2 : kq < n - k := by omega
            simp only at cu cv
            generalize po.1 = old at ck
            clear pu pv zu zv cu0 cv0 Iu0 Iv0 hkq hpo
            by_cases huv : us = vs
            · have hcall : ∀ q', Calls Try.prog 72 #[.slice Bu mu du, .slice Bv mv dv] (wr.drewN q') fun e w' => e = .returned (.bool true) ∧ ∃ m, w' = (wr.drewN q').drewN m := fun q' => sequal _ _ _ _ _ _ us vs true _ (Iu.drewN q') (Iv.drewN q') (by simp [huv])
              have HD2 := Lib.hid (cpU_drop' PU.out PV.out (by omega) huv)
              clear Iu Iv huv
              go_wp2_with fail
              go_quiet ((go_at_fn 72; exact Calls.quiet_of (hcall _)))
              clear W2
              go_wp2
              go_roundg (n - (k + (k2 + 1)))
              case measure => omega
              case rel => exact ⟨kk, k2 + 1, zs, rfl, by go_num, by omega, by omega, Nat.le_refl _, by omega, R2.out.drewN _, Lib.hid (by rw [← Nat.add_assoc, HD2.out]; exact hT.out), Lib.hid (by rw [← Nat.add_assoc, HD2.out]; exact hK.out), Lib.hid (fun j hj => hhi.out j (by omega)), grownBy_drewN G2.out _⟩
            · have hcall : ∀ q', Calls Try.prog 72 #[.slice Bu mu du, .slice Bv mv dv] (wr.drewN q') fun e w' => e = .returned (.bool false) ∧ ∃ m, w' = (wr.drewN q').drewN m := fun q' => sequal _ _ _ _ _ _ us vs false _ (Iu.drewN q') (Iv.drewN q') (by simp [huv])
              have HD2 := Lib.hid (cpU_keep' PU.out PV.out huv)
              clear Iu Iv huv
              go_wp2_with fail
              go_quiet ((go_at_fn 72; exact Calls.quiet_of (hcall _)))
              clear W2
              go_wp2
              go_roundg (n - (k + (k2 + 1)))
              case measure => omega
              case rel => exact ⟨kk + 1, k2 + 1, zs.set kk (.slice Bu mu du, us), by go_num, by go_num, by omega, by omega, Nat.le_refl _, by omega, (R2.out.drewN _).stored kk Bu mu du us,
                  Lib.hid (by rw [← Nat.add_assoc, HD2.out, ← hT.out]; exact set_take _ (by rw [LZ.out]; exact i3)),
                  Lib.hid (by rw [← Nat.add_assoc, HD2.out, List.length_append, ← hK.out]; rfl),
                  Lib.hid (fun j hj => by rw [List.getElem?_set_ne (by omega)]; exact hhi.out j (by omega)), grownBy_trans (grownBy_drewN G2.out _) (HRow.storedBy (R2.out.drewN _) kk _)⟩
          · have hend : k + k2 = n := by omega
            have hcl : ∀ ty, (Builtin.clear_ #[22] ty #[.slice (some ⟨g, kk, none⟩) (n - kk) (c - kk)]).run Try.prog wr = .ok (.tuple #[]) (wr.setCells g kk (List.replicate (n - kk) (.slice none 0 0))) :=
              fun ty => Lib.run_clear_slice wr _ _ ty _ Try.underlying22 zE rfl rfl g kk _ _ (by omega)
                (fun j hj => by rw [(R2.out.cellOf (List.getElem?_eq_getElem (show kk + j < zs.length by rw [LZ.out]; omega))).1]; rfl)
                (fun j hj => (R2.out.cellOf (List.getElem?_eq_getElem (show kk + j < zs.length by rw [LZ.out]; omega))).2)
            have KK := Lib.hid (show kk = (cpU ps ps.length).length by rw [hK.out, hend, L.out])
            have TT := Lib.hid (show zs.take kk = cpU ps ps.length by rw [hT.out, hend, L.out])
            have kkc : kk ≤ c := by omega
            have kkn : kk ≤ n := by omega
            have kkc' : kk < c := by omega
            clear hend
            go_wp2
            go_ret
            have hf := HRow.setCells (List.replicate (n - kk) (.slice none 0 0)) wr kk (Nat.le_refl _) (R2.out.cut kkn)
            rw [TT.out] at hf
            exact ⟨by rw [← KK.out]; rfl, by rw [← KK.out]; exact hf.1, grownBy_trans G2.out hf.2⟩
      · have hcall : ∀ q', Calls Try.prog 72 #[.slice B1 m1 d1, .slice B0 m0 d0] (wr.drewN q') fun e w' => e = .returned (.bool false) ∧ ∃ m, w' = (wr.drewN q').drewN m := fun q' => sequal _ _ _ _ _ _ xs ys false _ (I1.drewN q') (I0.drewN q') (by simp [hdup])
        have HD := Lib.hid (cpU_keep' P1.out P0.out hdup)
        clear I1 I0 hdup
        go_wp2_with fail
        go_quiet ((go_at_fn 72; exact Calls.quiet_of (hcall _)))
        clear W1
        go_wp2
        go_roundg (n - (k + 1))
        case measure => omega
        case rel => exact ⟨k + 1, by omega, by omega, Nat.le_refl _, by go_num, HR.out.drewN _, grownBy_drewN HG.out _, Lib.hid (by
          obtain ⟨hk', e⟩ := List.getElem?_eq_some_iff.1 P1.out
          rw [HD.out, hall.out, List.take_succ_eq_append_getElem hk', e])⟩
    · obtain rfl : k = n := by omega
      have e := Lib.hid (show cpU ps ps.length = ps by rw [L.out, hall.out, ← L.out, List.take_length])
      go_wp2
      go_ret
      exact ⟨by rw [e.out, L.out]; rfl, by rw [e.out, L.out]; exact HR.out, HG.out⟩
end Go.Proofs.Ytedcdpmflcegbaa
end

section
/- slices.Grow of a nil slice of headers. -/
namespace Go.Proofs.Ytedcdpmflcegbaa
open Go.RowKit

set_option maxHeartbeats 1000000 in
set_option maxRecDepth 100000 in
theorem grow_nilh (N : Nat) (hN : N ≤ 1759218604441) (w : World) :
    Calls Try.prog 79 #[.slice none 0 0, .int .i64 N] w fun e w' => ∃ v, e = .returned v ∧ HRow w' w.heap.size v [] ∧ Below w.heap.size w w' := by
  obtain ⟨i0, hi, hz0, hz1, hz2⟩ := info_parts infol
  by_cases h0 : N = 0
  · subst h0
    go_enter Try.func79, Try.ntmps79
    go_wp2
    go_ret
    exact ⟨_, rfl, HRow.nil _ _, Below.refl _ _⟩
  · have happ := Lib.run_append_nil_zeros (P := Try.prog) w 22 3 22 27 i0 (.slice none 0 0) .i64 .i64 Try.underlying22 Try.underlying3 hi hz0 N (by omega) (by omega) (by omega) (by rw [hz2]; omega)
    have hge := grownCap_ge w N 0 27
    have hcm := grownCap_le_maxLen w N 0 27 (by unfold maxLen; omega)
    generalize grownCap w N 0 27 = cap at happ hge hcm
    generalize hZ : (Builtin.zeroCells (Value.slice none 0 0).cells N ++ Builtin.zeroCells (Value.slice none 0 0).cells (cap - N)) = Z at happ
    have hZs : Z.size = cap := by rw [← hZ]; simp [size_zeroCells, Value.cells]; omega
    have hp : (0 : Int) < N := by omega
    have HZ := Lib.hid hZs
    clear hZ hZs
    have hmx : cap ≤ 9223372036854775807 := by unfold maxLen at hcm; omega
    go_enter Try.func79, Try.ntmps79
    go_wp2_with (at_builtin; refine Lib.wpList_append_run _ rfl _ _ _ _ rfl _ _ rfl rfl _ _ happ ?_)
    go_ret
    refine ⟨_, rfl, ?_, (Below.refl _ _).drew.alloc (Nat.le_refl _) _⟩
    exact ⟨⟨by simp, .inr ⟨w.heap.size, cap, Z, rfl, Nat.le_refl _, heap_alloc_new w _, Nat.zero_le _, hcm, by rw [HZ.out]; simp, by simp⟩⟩, fun p hp => absurd hp (by simp)⟩
end Go.Proofs.Ytedcdpmflcegbaa
end
