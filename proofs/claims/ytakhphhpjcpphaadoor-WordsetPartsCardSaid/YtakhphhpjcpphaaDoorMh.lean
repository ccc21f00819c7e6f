/- Lemmas of the proofs of this seat, of the parts Openx, Uniw, Partp, Partw. Conditions: none. -/
import Derived.Test.YtakhphhpjcpphaaDoorMg
import Derived.Test.YtakhphhpjcpphaaDoorMd
import Derived.Deep.Slices
import Derived.Test.YtakhphhpjcpphaaDoorMf
section
/- What the rows hand over: slices of lists of lists. -/
namespace Go.Proofs.YtakhphhpjcpphaaDoor
open Go.ChangeShapes Go.WideShapes Go.ChangeAt Go.RowKit Go.Joins Go.Deep

section
variable {H : Type} {enc : TypeId × Value → H} {w : World} {base : Nat} {held : Bool} {fuel : Nat} {cs : List Value} {x : DataW H × List MemPlace}

/-- A slice of lists of lists that came in. -/
theorem open_lists3 (hb3 : Tryd.prog.bytesOf 3 = 8) (hb4 : Tryd.prog.bytesOf 38 = 24) (hb5 : Tryd.prog.bytesOf 25 = 24) (h : DataW.trod enc Tryd.prog w base (fun _ => true) held fuel 22 cs = some x) (hl : Light Tryd.prog 22 x.1) :
    ∃ A n c ls, cs = [.slice A n c] ∧ n ≤ c ∧ Lists3 w A n ls ∧ ∀ l, l ∈ ls → ∀ x, x ∈ l → In64 x := by
  rcases open_slice1 Tryd.underlying22 (by kernel_rfl) h with ⟨hcs, hx⟩ | ⟨a, len, cap, m, n, V, D, Pl, hcs, _, hlc, hm, hmm, hx, hcell⟩
  · exact ⟨none, 0, 0, [], hcs, Nat.le_refl _, ⟨rfl, by omega, fun h => absurd h (by omega)⟩, by simp⟩
  · simp only [if_true] at hmm
    subst hmm
    subst hx
    have each : ∀ i, i < len → ∃ q : Option Addr × Nat × Nat × List (List Int), V i = .slice q.1 q.2.1 q.2.2.1 ∧ q.2.1 ≤ q.2.2.1 ∧ ListsC w q.1 q.2.1 q.2.2.2 ∧ ∀ l, l ∈ q.2.2.2 → In64 l := fun i hi => by
      have hw : Light Tryd.prog 25 (D i) := fun k hk => hl k (by
        simp only [DataW.weights, Tryd.underlying22]
        exact List.mem_cons_of_mem _ (List.mem_append_left _ (weightsAll_mem (List.mem_map.2 ⟨i, List.mem_range.2 hi, rfl⟩) hk)))
      obtain ⟨A', n', c', z, e', h1, h2, h3⟩ := open_listsC hb3 hb4 (hcell i (by omega)).2 hw
      exact ⟨(A', n', c', z), by simpa using e', h1, h2, h3⟩
    obtain ⟨f, hf⟩ := choose_lt each
    refine ⟨some a, len, m, (List.range len).map fun i => (f i).2.2.2, hcs, hlc, ⟨by simp, ?_, fun h0 => ?_⟩, fun l hl2 => ?_⟩
    · have := hl ((((List.range len).map D).length + ((List.range (m - len)).map fun j => D (len + j)).length) * 24) (by simp [DataW.weights, Tryd.underlying22, hb5])
      rw [reach_num] at this
      simp only [List.length_map, List.length_range] at this
      omega
    · obtain ⟨b, off, spot⟩ := a
      have hc0 := (hcell 0 (by omega)).1
      have hspot : spot = none := by simpa [Addr.add] using World.cell?_spot hc0
      subst hspot
      refine ⟨b, off, rfl, by have := block_lt hc0; simpa [Addr.add] using this, fun j hj => ?_⟩
      have h1 := (hcell j (by omega)).1
      obtain ⟨h2, h3, h4, _⟩ := hf j hj
      rw [add_none, h2] at h1
      have e : ((List.range len).map fun i => (f i).2.2.2).getD j [] = (f j).2.2.2 := by simp [List.getD, hj]
      rw [e]
      exact ⟨_, _, _, h1, h3, h4⟩
    · obtain ⟨r, hr, rfl⟩ := List.mem_map.1 hl2
      exact (hf r (List.mem_range.1 hr)).2.2.2
end
end Go.Proofs.YtakhphhpjcpphaaDoor
end

section
/- The laws' walks: Unions. -/
namespace Go.Proofs.YtakhphhpjcpphaaDoor
open Go.RowKit Go.Shelf

theorem flat_small {ls : List (List (List Int))} {M : Nat} (h : ∀ l, l ∈ ls → l.length ≤ M) : ls.flatten.length ≤ M * ls.length := by
  induction ls with
  | nil => simp
  | cons l ls ih =>
    have h1 := ih fun x hx => h x (List.mem_cons_of_mem _ hx)
    have h2 := h l List.mem_cons_self
    rw [List.flatten_cons, List.length_append, List.length_cons, Nat.mul_succ]
    omega
theorem Lists3.len {w : World} {A : Option Addr} {n : Nat} {ls : List (List (List Int))} (h : Lists3 w A n ls) : ls.length = n := h.1

set_option maxHeartbeats 2000000 in
theorem unions_in (A : Option Addr) (n c : Nat) (ls : List (List (List Int))) (w : World) (_ : n ≤ c) (h : Lists3 w A n ls) (_ : ∀ l, l ∈ ls → ∀ x, x ∈ l → In64 x) (T : Tab w) :
    Calls Tryd.prog 3 #[.slice A n c] w fun e w' => e = .returned (.bool true) ∧ Below w.heap.size w w' := by
  have TT := Lib.hid T
  have HL := Lib.hid h
  have LL := Lib.hid h.1
  clear T h
  by_cases h8 : 8 < n
  · have i8 : (8 : Int) < (n : Int) := by omega
    go_enter Tryd.func3, Tryd.ntmps3
    go_wp2_with fail
    refine (awake w TT.out).mono ?_
    rintro e w4 ⟨rfl, b4⟩
    go_wp2
    go_ret
    exact ⟨rfl, b4⟩
  · have i8 : ¬ (8 : Int) < (n : Int) := by omega
    go_enter Tryd.func3, Tryd.ntmps3
    go_wp2
    go_loopw [3] (fun i wr => ∃ k : Nat, k ≤ n ∧ i = .int .i64 k ∧ Below w.heap.size w wr ∧ Hid (∀ j, j < k → Small (ls.getD j []) 20 30)) (fun i _ => n - (intOf i).toNat)
    case atStart => exact ⟨0, Nat.zero_le _, rfl, Below.refl _ _, Lib.hid fun j hj => absurd hj (Nat.not_lt_zero _)⟩
    case round =>
      obtain ⟨k, hk, rfl, hbr, hsm⟩ := hrel
      have HB := Lib.hid hbr
      clear hbr
      by_cases hlt : k < n
      · obtain ⟨b, off, Aj, nj, cj, rfl, _, hcell, _, hj⟩ := (HL.out.below HB.out).at_ hlt
        have HJ := Lib.hid hj
        clear hj
        by_cases hs : Small (ls.getD k []) 20 30
        · have G1 := Lib.hid (rgreatw wr Aj nj cj 20 30 _ false HJ.out.lists (by rw [decide_eq_true hs]; rfl) (by omega))
          have HS := Lib.hid hs
          clear hs
          go_wp2_with fail
          refine G1.out.mono ?_
          rintro e w' ⟨rfl, rfl⟩
          go_wp2
          go_roundw
          case rel => exact ⟨k + 1, by omega, by go_num, HB.out, Lib.hid fun j hj => by
            by_cases e : j = k
            · subst e; exact HS.out
            · exact hsm.out j (by omega)⟩
          case measure => simp [intOf]; omega
        · have G1 := Lib.hid (rgreatw wr Aj nj cj 20 30 _ true HJ.out.lists (by rw [decide_eq_false hs]; rfl) (by omega))
          clear hs
          go_wp2_with fail
          refine G1.out.mono ?_
          rintro e w' ⟨rfl, rfl⟩
          go_wp2_with fail
          refine (awake wr (tab_at TT.out HB.out)).mono ?_
          rintro e w4 ⟨rfl, b4⟩
          have B4 := Lib.hid (bt HB.out b4)
          clear b4
          go_wp2
          go_ret
          exact ⟨rfl, B4.out⟩
      · obtain rfl : k = n := by omega
        have SM := Lib.hid (show ∀ l, l ∈ ls → Small l 20 30 from fun l hl => by
          obtain ⟨j, hj, rfl⟩ := List.mem_iff_getElem.1 hl
          have := hsm.out j (by rw [← LL.out]; exact hj)
          rw [List.getD_eq_getElem?_getD, List.getElem?_eq_getElem hj] at this
          exact this)
        have FL := Lib.hid (show ls.flatten.length ≤ 160 from by
          have := flat_small (ls := ls) (M := 20) fun l hl => (SM.out l hl).1
          rw [LL.out] at this; omega)
        have WL := Lib.hid (show ∀ x, x ∈ sw ls.flatten → x.length ≤ 17592186044416 from fun x hx => by
          rw [sw_mem] at hx
          obtain ⟨l, hl, hx⟩ := List.mem_flatten.1 hx
          have := (SM.out l hl).2 x hx
          omega)
        have NL := Lib.hid (show (sw ls.flatten).length ≤ 160 from Nat.le_trans (sw_len _) FL.out)
        have H1 := Lib.hid (HL.out.below HB.out)
        go_wp2_with fail
        refine (pUnion wr A k c ls H1.out (by have := FL.out; omega)).mono ?_
        rintro e w1 ⟨v1, rfl, o1, b1⟩
        have B1 := Lib.hid (bt HB.out b1)
        obtain ⟨A1, c1, e1⟩ := o1.form
        subst e1
        have l1 := o1.lists (by have := NL.out; omega) WL.out
        obtain ⟨xs, hxs⟩ : ∃ xs, xs = sw ls.flatten := ⟨_, rfl⟩
        obtain ⟨z, hz⟩ : ∃ z, z = (sw ls.flatten).length := ⟨_, rfl⟩
        rw [← hz]
        rw [← hz, ← hxs] at l1
        have L1 := Lib.hid l1
        have HX := Lib.hid hxs
        have HZ := Lib.hid hz
        have H2 := Lib.hid (H1.out.below b1)
        clear o1 b1 l1 hxs hz
        go_wp2_with fail
        refine (runion w1 A k c ls H2.out (by have := FL.out; omega)).mono ?_
        rintro e w2 ⟨v2, rfl, o2, b2⟩
        obtain ⟨A2, c2, e2⟩ := o2.form
        subst e2
        have l2 := o2.lists (by have := NL.out; omega) WL.out
        rw [← HZ.out]
        rw [← HZ.out, ← HX.out] at l2
        have L2 := Lib.hid l2
        have L1b := Lib.hid (L1.out.below b2)
        have B2 := Lib.hid (bt B1.out b2)
        clear o2 b2 l2
        go_wp2_with fail
        refine (rsameWords _ _ _ _ _ _ xs xs true _ L1b.out.lists L2.out.lists (by simp)).mono ?_
        rintro e w3 ⟨rfl, b3⟩
        have B3 := Lib.hid (bt B2.out (rd_below b3))
        clear b3
        go_wp2_with fail
        refine (awake w3 (tab_at TT.out B3.out)).mono ?_
        rintro e w4 ⟨rfl, b4⟩
        have B4 := Lib.hid (bt B3.out b4)
        clear b4
        go_wp2
        go_ret
        exact ⟨rfl, B4.out⟩
end Go.Proofs.YtakhphhpjcpphaaDoor
end

section
/- Plain: products of small lists; the words over two symbols up to the length four. -/
namespace Go.Proofs.YtakhphhpjcpphaaDoor

theorem prdS_len (hs ts : List (List Int)) : (prdS hs ts).length = hs.length * ts.length := by
  induction hs with
  | nil => simp [prdS]
  | cons h hs ih =>
    have : prdS (h :: hs) ts = (ts.map fun t => h ++ t) ++ prdS hs ts := by unfold prdS; rw [List.flatMap_cons]
    rw [this, List.length_append, ih, List.length_map, List.length_cons, Nat.succ_mul]
    omega
theorem prod_small {a b : List (List Int)} (h1 : a.length ≤ 12) (h2 : b.length ≤ 12) (h3 : ∀ x, x ∈ a → x.length ≤ 12) (h4 : ∀ x, x ∈ b → x.length ≤ 12) :
    prodE a b = 0 ∧ prodW a b = sw (prdS a b) := by
  have l1 := lonS_le h3
  have l2 := lonS_le h4
  have l3 := sw_len (prdS a b)
  rw [prdS_len] at l3
  have l4 : a.length * b.length ≤ 12 * 12 := Nat.mul_le_mul h1 h2
  by_cases e : a = [] ∨ b = []
  · have h0 : prdS a b = [] := by
      apply List.length_eq_zero_iff.1
      rw [prdS_len]
      rcases e with rfl | rfl <;> simp
    have := prod_none e
    exact ⟨this.1, by rw [this.2, h0]; rfl⟩
  · exact prod_ok e (by omega) (by omega)
theorem prod_size (a b : List (List Int)) : (sw (prdS a b)).length ≤ (sw a).length * (sw b).length := by
  rw [sw_same (prdS_same (fun x => (sw_mem a x).symm) (fun x => (sw_mem b x).symm)), ← prdS_len]
  exact sw_len _

/-- The words of n symbols out of two. -/
def al : Nat → List (List Int)
  | 0 => [[]]
  | n + 1 => (al n).flatMap fun y => [0 :: y, 1 :: y]
theorem al_mem {x : List Int} (h : ∀ s, s ∈ x → s = 0 ∨ s = 1) : x ∈ al x.length := by
  induction x with
  | nil => simp [al]
  | cons s x ih =>
    have := ih fun t ht => h t (List.mem_cons_of_mem _ ht)
    rw [List.length_cons, al, List.mem_flatMap]
    refine ⟨x, this, ?_⟩
    rcases h s List.mem_cons_self with rfl | rfl <;> simp
theorem upt24 : (uptV 2 4).2 = 0 ∧ (uptV 2 4).1.length = 31 := by decide +kernel
theorem upt24_all : ∀ n, n ∈ [0, 1, 2, 3, 4] → ∀ x, x ∈ al n → x ∈ (uptV 2 4).1 := by decide +kernel
theorem upt24_ok : ∀ x, x ∈ (uptV 2 4).1 → x.length ≤ 4 ∧ ∀ s, s ∈ x → s = 0 ∨ s = 1 := by decide +kernel
theorem upt24_asc : AscW (uptV 2 4).1 := by unfold AscW; decide +kernel
theorem upt24_mem (x : List Int) : x ∈ (uptV 2 4).1 ↔ x.length ≤ 4 ∧ ∀ s, s ∈ x → s = 0 ∨ s = 1 :=
  ⟨upt24_ok x, fun h => upt24_all x.length (by have := h.1; simp only [List.mem_cons, List.not_mem_nil, or_false]; omega) x (al_mem h.2)⟩

/-- The flag after k symbols. -/
def inW (ws : List Int) (k : Nat) : Bool := decide (ws.length ≤ 4) && (ws.take k).all fun s => decide (s = 0) || decide (s = 1)
theorem inW_zero (ws : List Int) : inW ws 0 = decide (ws.length ≤ 4) := by simp [inW]
theorem inW_succ {ws : List Int} {k : Nat} (h : k < ws.length) : inW ws (k + 1) = (inW ws k && (decide (ws.getD k 0 = 0) || decide (ws.getD k 0 = 1))) := by
  unfold inW
  rw [List.take_succ_eq_append_getElem h, List.all_append, List.getD_eq_getElem?_getD, List.getElem?_eq_getElem h, Bool.and_assoc]
  simp
theorem inW_all (ws : List Int) : inW ws ws.length = decide (ws ∈ (uptV 2 4).1) := by
  rw [Bool.eq_iff_iff]
  simp [inW, upt24_mem]
end Go.Proofs.YtakhphhpjcpphaaDoor
end

section
/- The laws' walks: Parts. -/
namespace Go.Proofs.YtakhphhpjcpphaaDoor
open Go.RowKit Go.Shelf

theorem Owned.intsN {w : World} {base : Nat} {A : Option Addr} {n c : Nat} {xs : List Int} (h : Owned w base (.slice A n c) xs) (hm : xs.length ≤ 17592186044416) : Ints w A n xs := h.ints hm
theorem getD_in {l : List (List Int)} {k : Nat} (h : k < l.length) : l.getD k [] ∈ l := by rw [List.getD_eq_getElem?_getD, List.getElem?_eq_getElem h]; exact List.getElem_mem _

set_option maxHeartbeats 4000000 in
set_option maxRecDepth 100000 in
/-- The loops: every concatenation is in the product; and whether one of them is the word. -/
theorem parts_walk (A B C : Option Addr) (n c m d l e : Nat) (a b : List (List Int)) (ws : List Int) (w : World) (ha : ListsC w A n a) (hb : ListsC w B m b) (hw : Ints w C l ws)
    (ha6 : ∀ x, x ∈ a → In64 x) (hb6 : ∀ x, x ∈ b → In64 x) (hn : n ≤ 12) (hm : m ≤ 12) (hl : l ≤ 30) (h1 : ∀ x, x ∈ a → x.length ≤ 12) (h2 : ∀ x, x ∈ b → x.length ≤ 12) (T : Tab w) :
    Calls Tryd.prog 7 #[.slice A n c, .slice B m d, .slice C l e] w fun e w' => e = .returned (.bool true) ∧ Below w.heap.size w w' := by
  have TT := Lib.hid T
  have HA := Lib.hid ha
  have HB := Lib.hid hb
  have HW := Lib.hid hw
  have H6 := Lib.hid (And.intro ha6 hb6)
  have G1 := Lib.hid (rgreatw w A n c 12 12 a false ha.lists (by rw [decide_eq_true (show Small a 12 12 from ⟨by rw [ha.1]; exact hn, h1⟩)]; rfl) (by omega))
  have G2 := Lib.hid (rgreatw w B m d 12 12 b false hb.lists (by rw [decide_eq_true (show Small b 12 12 from ⟨by rw [hb.1]; exact hm, h2⟩)]; rfl) (by omega))
  have PS := Lib.hid (prod_small (a := a) (b := b) (by rw [ha.1]; exact hn) (by rw [hb.1]; exact hm) h1 h2)
  have PZ := Lib.hid (prod_size a b)
  have PW := Lib.hid (prodW_words h1 h2)
  have S1 := Lib.hid (And.intro h1 h2)
  have AL := Lib.hid ha.1
  have BL := Lib.hid hb.1
  have WL := Lib.hid hw.1
  have i30 : ¬ (30 : Int) < (l : Int) := by omega
  clear T ha hb hw ha6 hb6 h1 h2
  go_enter Tryd.func7, Tryd.ntmps7
  go_wp2_with fail
  refine G1.out.mono ?_
  rintro e w' ⟨rfl, rfl⟩
  go_wp2_with fail
  refine G2.out.mono ?_
  rintro e w' ⟨rfl, rfl⟩
  go_wp2_with fail
  refine (pproduct w A B n c m d a b HA.out HB.out H6.out.1 H6.out.2 (by omega) (by omega) TT.out).mono ?_
  rintro e w1 ⟨v1, he, o1, b1⟩
  rw [PS.out.1] at he
  subst he
  have B1 := Lib.hid b1
  obtain ⟨A1, c1, e1⟩ := o1.form
  subst e1
  have l1 := o1.lists (by have := PW.out.2; omega) (fun x hx => by have := PW.out.1 x hx; omega)
  obtain ⟨p, hp⟩ : ∃ p, p = prodW a b := ⟨_, rfl⟩
  obtain ⟨z, hz⟩ : ∃ z, z = (prodW a b).length := ⟨_, rfl⟩
  rw [← hz]
  rw [← hz, ← hp] at l1
  have L1 := Lib.hid l1
  have HP := Lib.hid (show p = sw (prdS a b) by rw [hp]; exact PS.out.2)
  have HZ := Lib.hid (show z ≤ (sw a).length * (sw b).length by rw [hz, PS.out.2]; exact PZ.out)
  clear o1 b1 l1 hp hz
  go_wp2_with fail
  refine (rascending w1 A1 z c1 p L1.out.lists (by rw [HP.out]; exact sw_asc _)).mono ?_
  rintro e w2 ⟨rfl, b2⟩
  have B2 := Lib.hid (bt B1.out (rd_below b2))
  have L2 := Lib.hid (L1.out.below (rd_below b2))
  have A2 := Lib.hid (HA.out.below B2.out)
  have C2 := Lib.hid (HB.out.below B2.out)
  have W2 := Lib.hid (HW.out.below B2.out)
  clear b2 L1 B1
  go_wp2
  go_loopw [9, 10] (fun v i wr => ∃ (k : Nat) (f : Bool), k ≤ n ∧ v = .bool f ∧ i = .int .i64 k ∧ Below w2.heap.size w2 wr ∧ Hid (f = decide (ws ∈ pdU a b k))) (fun _ i _ => n - (intOf i).toNat)
  case atStart => exact ⟨0, false, Nat.zero_le _, rfl, rfl, Below.refl _ _, Lib.hid (by rw [pdU_zero]; simp)⟩
  case round =>
    obtain ⟨k, f, hk, rfl, rfl, hbr, hf⟩ := hrel
    by_cases hlt : k < n
    · have hkh : k < a.length := by rw [AL.out]; exact hlt
      have HBr := Lib.hid hbr
      clear hbr
      go_wp2
      obtain ⟨wo, hwo⟩ : ∃ wo : World, wo = wr := ⟨_, rfl⟩
      rw [← hwo] at HBr ⊢
      clear hwo
      go_loopw [9, 11] (fun v i wr => ∃ (j : Nat) (f : Bool), j ≤ m ∧ v = .bool f ∧ i = .int .i64 j ∧ Below w2.heap.size w2 wr ∧ Hid (f = decide (ws ∈ pdV a b k j))) (fun _ i _ => m - (intOf i).toNat)
      case atStart => exact ⟨0, f, Nat.zero_le _, rfl, rfl, HBr.out, Lib.hid (by rw [pdV_zero]; exact hf.out)⟩
      case round =>
        obtain ⟨j, f, hj, rfl, rfl, hbr, hf⟩ := hrel
        by_cases hlt2 : j < m
        · have hjt : j < b.length := by rw [BL.out]; exact hlt2
          obtain ⟨bh, oh, Bh, mh, dh, eh, _, ch, _, ih⟩ := (A2.out.below hbr).at_ hlt
          obtain ⟨bt', ot, Bt, mt, dt, et, _, ct, _, it⟩ := (C2.out.below hbr).at_ hlt2
          subst eh
          subst et
          have hm1 : a.getD k [] ∈ a := getD_in hkh
          have hm2 : b.getD j [] ∈ b := getD_in hjt
          have q1 := S1.out.1 _ hm1
          have q2 := S1.out.2 _ hm2
          rw [ih.1] at q1
          rw [it.1] at q2
          have hml : mh + mt ≤ 17592186044416 := by omega
          have IH := Lib.hid ih
          have IT := Lib.hid it
          obtain ⟨x, hx⟩ : ∃ x, x = a.getD k [] ++ b.getD j [] := ⟨_, rfl⟩
          have XL := Lib.hid (show x.length ≤ 17592186044416 by rw [hx, List.length_append, ih.1, it.1]; exact hml)
          have HX := Lib.hid hx
          have PV := Lib.hid (show pdV a b k (j + 1) = pdV a b k j ++ [x] by rw [pdV_succ hjt, hx])
          have XP := Lib.hid (show x ∈ p by rw [HP.out, sw_mem, prdS_mem, hx]; exact ⟨_, _, hm1, hm2, rfl⟩)
          have HBr := Lib.hid hbr
          clear hbr hm1 hm2 q1 q2 ih it hx
          go_wp2
          go_region_law (go_simp; go_at_call 23; refine (rjoin2 Bh Bt mh dh mt dt _ _ _ (IH.out.drewN _) (IT.out.drewN _) hml).mono ?_; rintro e w7 ⟨A7, c7, rfl, o7, b7⟩
                         rw [← HX.out] at o7
                         have X7 := Lib.hid (o7.ints XL.out)
                         have B7 := Lib.hid (HBr.out.trans (((below_drewN (Below.refl _ _) _).trans b7).mono HBr.out.size))
                         clear o7 b7)
          all_goals
            go_wp2_with fail
            refine (pHas w7 A1 A7 z c1 (mh + mt) c7 p x true (L2.out.below B7.out).lists X7.out (decide_eq_true XP.out).symm).mono ?_
            rintro e w8 ⟨rfl, b8⟩
            have B8 := Lib.hid (bt B7.out b8)
            have X8 := Lib.hid (X7.out.below b8)
            clear b8
            cases f with
            | true =>
              go_wp2
              go_roundw
              case rel => exact ⟨j + 1, true, by omega, rfl, by go_num, B8.out, Lib.hid (by
                have := hf.out
                rw [PV.out]
                refine (decide_eq_true ?_).symm
                exact List.mem_append_left _ (of_decide_eq_true this.symm))⟩
              case measure => simp [intOf]; omega
            | false =>
              obtain ⟨r, hr⟩ : ∃ r, r = decide (x = ws) := ⟨_, rfl⟩
              have HR := Lib.hid hr
              have SM := Lib.hid (rsameD A7 C (mh + mt) c7 l e x ws r w8 X8.out (W2.out.below B8.out) hr)
              clear hr
              go_wp2_with fail
              refine SM.out.mono ?_
              rintro e w9 ⟨rfl, b9⟩
              have B9 := Lib.hid (bt B8.out (rd_below b9))
              clear b9
              go_wp2
              go_roundw
              case rel => exact ⟨j + 1, r, by omega, rfl, by go_num, B9.out, Lib.hid (by
                have h0 := of_decide_eq_false hf.out.symm
                rw [PV.out, HR.out]
                refine decide_eq_decide.2 ?_
                rw [List.mem_append, List.mem_singleton]
                exact ⟨fun k => .inr k.symm, fun k => k.elim (fun k => absurd k h0) fun k => k.symm⟩)⟩
              case measure => simp [intOf]; omega
        · obtain rfl : j = m := by omega
          have HBr2 := Lib.hid hbr
          clear hbr
          go_wp2
          go_roundw
          case rel => exact ⟨k + 1, f, by omega, rfl, by go_num, HBr2.out, Lib.hid (by rw [pdU_succ hkh, BL.out]; exact hf.out)⟩
          case measure => simp [intOf]; omega
    · obtain rfl : k = n := by omega
      have HF := Lib.hid (show f = decide (ws ∈ p) by
        rw [hf.out]
        refine decide_eq_decide.2 ?_
        rw [HP.out, sw_mem, ← pdU_all, AL.out])
      have B3 := Lib.hid (bt B2.out hbr)
      have A3 := Lib.hid (A2.out.below hbr)
      have C3 := Lib.hid (C2.out.below hbr)
      have W3 := Lib.hid (W2.out.below hbr)
      have L3 := Lib.hid (L2.out.below hbr)
      clear hf hbr
      go_wp2_with fail
      refine (pHas wr A1 C z c1 l e p ws f L3.out.lists W3.out HF.out).mono ?_
      rintro e w4 ⟨rfl, b4⟩
      have B4 := Lib.hid (bt B3.out b4)
      have A4 := Lib.hid (A3.out.below b4)
      have C4 := Lib.hid (C3.out.below b4)
      have W4 := Lib.hid (W3.out.below b4)
      clear b4 A3 C3 W3 L3 B3
      go_wp2_with fail
      refine (psorted w4 A k c a A4.out (by omega)).mono ?_
      rintro e w5 ⟨v5, rfl, o5, b5⟩
      obtain ⟨A5, c5, e5⟩ := o5.form
      subst e5
      obtain ⟨y1, hy1⟩ : ∃ y1, y1 = (sw a).length := ⟨_, rfl⟩
      rw [← hy1]
      have Y1 := Lib.hid hy1
      have B5 := Lib.hid (bt B4.out b5)
      have C5 := Lib.hid (C4.out.below b5)
      have W5 := Lib.hid (W4.out.below b5)
      clear b5 o5 hy1
      go_wp2_with fail
      refine (psorted w5 B m d b C5.out (by omega)).mono ?_
      rintro e w6 ⟨v6, rfl, o6, b6⟩
      obtain ⟨A6, c6, e6⟩ := o6.form
      subst e6
      obtain ⟨y2, hy2⟩ : ∃ y2, y2 = (sw b).length := ⟨_, rfl⟩
      rw [← hy2]
      have Y2 := Lib.hid hy2
      have B6 := Lib.hid (bt B5.out b6)
      have W6 := Lib.hid (W5.out.below b6)
      clear b6 o6 hy2
      have k1 : y1 ≤ 12 := by have := sw_len a; rw [AL.out] at this; rw [Y1.out]; omega
      have k2 : y2 ≤ 12 := by have := sw_len b; rw [BL.out] at this; rw [Y2.out]; omega
      have k3 : z ≤ y1 * y2 := by rw [Y1.out, Y2.out]; exact HZ.out
      have k4 : y1 * y2 ≤ 144 := Nat.mul_le_mul k1 k2
      have hwm : IntKind.i64.wrap ((y1 : Int) * (y2 : Int)) = ((y1 * y2 : Nat) : Int) := by
        rw [IntKind.wrap_i64]
        have : ((y1 * y2 : Nat) : Int) = (y1 : Int) * (y2 : Int) := by simp
        omega
      have i1 : ¬ ((y1 * y2 : Nat) : Int) < (z : Int) := by omega
      go_wp2_with fail
      clear hwm i1
      refine (pupto 2 4 w6).mono ?_
      rintro e w7 ⟨v7, he, o7, b7⟩
      rw [upt24.1] at he
      subst he
      obtain ⟨A7, c7, e7⟩ := o7.form
      rw [upt24.2] at e7
      subst e7
      have l7 := o7.lists (by rw [upt24.2]; omega) (fun x hx => by have := (upt24_ok x hx).1; omega)
      have L7 := Lib.hid l7
      have B7 := Lib.hid (bt B6.out b7)
      have W7 := Lib.hid (W6.out.below b7)
      clear o7 b7 l7
      go_wp2
      go_loopw [15, 16] (fun v i wr => ∃ (k : Nat), k ≤ l ∧ v = .bool (inW ws k) ∧ i = .int .i64 k ∧ Below w7.heap.size w7 wr) (fun _ i _ => l - (intOf i).toNat)
      case atStart => exact ⟨0, Nat.zero_le _, by rw [inW_zero, WL.out]; congr 1; exact decide_eq_decide.2 (by omega), rfl, Below.refl _ _⟩
      case round =>
        obtain ⟨k, hk, rfl, rfl, hbr⟩ := hrel
        by_cases hlt : k < l
        · obtain ⟨bw, ow, rfl, _, cw⟩ := (W7.out.below hbr).at_ hlt
          have HS := Lib.hid (inW_succ (ws := ws) (k := k) (by rw [WL.out]; exact hlt))
          obtain ⟨s, hs⟩ : ∃ s, s = ws.getD k 0 := ⟨_, rfl⟩
          rw [← hs] at cw HS
          obtain ⟨f, hf⟩ : ∃ f, f = inW ws k := ⟨_, rfl⟩
          rw [← hf] at HS ⊢
          clear hs hf
          have HBr := Lib.hid hbr
          clear hbr
          cases f with
          | false =>
            go_wp2
            go_roundw
            case rel => exact ⟨k + 1, by omega, by rw [HS.out]; rfl, by go_num, HBr.out⟩
            case measure => simp [intOf]; omega
          | true =>
            by_cases s0 : s = 0
            · subst s0
              go_wp2
              go_roundw
              case rel => exact ⟨k + 1, by omega, by rw [HS.out]; rfl, by go_num, HBr.out⟩
              case measure => simp [intOf]; omega
            · by_cases s1 : s = 1
              · subst s1
                go_wp2
                go_roundw
                case rel => exact ⟨k + 1, by omega, by rw [HS.out]; rfl, by go_num, HBr.out⟩
                case measure => simp [intOf]; omega
              · have D := Lib.hid (And.intro s0 s1)
                go_wp2
                go_roundw
                case rel => exact ⟨k + 1, by omega, by rw [HS.out]; have h1 := D.out.1; have h2 := D.out.2; simp [h1, h2], by go_num, HBr.out⟩
                case measure => simp [intOf]; omega
        · obtain rfl : k = l := by omega
          obtain ⟨f', hf'⟩ : ∃ f, f = inW ws k := ⟨_, rfl⟩
          rw [← hf']
          have HF2 := Lib.hid (show f' = decide (ws ∈ (uptV 2 4).1) by rw [hf', ← WL.out, inW_all])
          have B8 := Lib.hid (bt B7.out hbr)
          have L8 := Lib.hid (L7.out.below hbr)
          have W8 := Lib.hid (W7.out.below hbr)
          clear hf' hbr
          go_wp2_with fail
          refine (rascending _ _ _ _ _ L8.out.lists upt24_asc).mono ?_
          rintro e w9 ⟨rfl, b9⟩
          have B9 := Lib.hid (bt B8.out (rd_below b9))
          have L9 := Lib.hid (L8.out.below (rd_below b9))
          have W9 := Lib.hid (W8.out.below (rd_below b9))
          clear b9
          go_wp2_with fail
          refine (pHas _ _ _ _ _ _ _ _ ws f' L9.out.lists W9.out HF2.out).mono ?_
          rintro e w10 ⟨rfl, b10⟩
          have B10 := Lib.hid (bt B9.out b10)
          clear b10
          go_wp2_with fail
          refine (awake w10 (tab_at TT.out B10.out)).mono ?_
          rintro e w11 ⟨rfl, b11⟩
          have B11 := Lib.hid (bt B10.out b11)
          clear b11
          go_wp2
          go_ret
          exact ⟨rfl, B11.out⟩

set_option maxHeartbeats 2000000 in
theorem parts_in (A : Option Addr) (n c : Nat) (a : List (List Int)) (B : Option Addr) (m d : Nat) (b : List (List Int)) (C : Option Addr) (l e : Nat) (ws : List Int) (w : World) (_ : n ≤ c) (ha : ListsC w A n a) (ha6 : ∀ x, x ∈ a → In64 x)
    (_ : m ≤ d) (hb : ListsC w B m b) (hb6 : ∀ x, x ∈ b → In64 x) (_ : l ≤ e) (hw : Ints w C l ws) (_ : ∀ z, z ∈ ws → (Lit.int .i64 z).wf = true) (T : Tab w) :
    Calls Tryd.prog 7 #[.slice A n c, .slice B m d, .slice C l e] w fun e w' => e = .returned (.bool true) ∧ Below w.heap.size w w' := by
  by_cases hsa : Small a 12 12
  · by_cases hsb : Small b 12 12
    · by_cases hl : l ≤ 30
      · exact parts_walk A B C n c m d l e a b ws w ha hb hw ha6 hb6 (by rw [← ha.1]; exact hsa.1) (by rw [← hb.1]; exact hsb.1) hl hsa.2 hsb.2 T
      · have G1 := Lib.hid (rgreatw w A n c 12 12 a false ha.lists (by rw [decide_eq_true hsa]; rfl) (by omega))
        have G2 := Lib.hid (rgreatw w B m d 12 12 b false hb.lists (by rw [decide_eq_true hsb]; rfl) (by omega))
        have TT := Lib.hid T
        have i30 : (30 : Int) < (l : Int) := by omega
        clear hsa hsb ha hb hw ha6 hb6 T hl
        go_enter Tryd.func7, Tryd.ntmps7
        go_wp2_with fail
        refine G1.out.mono ?_
        rintro e w' ⟨rfl, rfl⟩
        go_wp2_with fail
        refine G2.out.mono ?_
        rintro e w' ⟨rfl, rfl⟩
        go_wp2_with fail
        refine (awake w TT.out).mono ?_
        rintro e w4 ⟨rfl, b4⟩
        go_wp2
        go_ret
        exact ⟨rfl, b4⟩
    · have G1 := Lib.hid (rgreatw w A n c 12 12 a false ha.lists (by rw [decide_eq_true hsa]; rfl) (by omega))
      have G2 := Lib.hid (rgreatw w B m d 12 12 b true hb.lists (by rw [decide_eq_false hsb]; rfl) (by omega))
      have TT := Lib.hid T
      clear hsa hsb ha hb hw ha6 hb6 T
      go_enter Tryd.func7, Tryd.ntmps7
      go_wp2_with fail
      refine G1.out.mono ?_
      rintro e w' ⟨rfl, rfl⟩
      go_wp2_with fail
      refine G2.out.mono ?_
      rintro e w' ⟨rfl, rfl⟩
      go_wp2_with fail
      refine (awake w TT.out).mono ?_
      rintro e w4 ⟨rfl, b4⟩
      go_wp2
      go_ret
      exact ⟨rfl, b4⟩
  · have G1 := Lib.hid (rgreatw w A n c 12 12 a true ha.lists (by rw [decide_eq_false hsa]; rfl) (by omega))
    have TT := Lib.hid T
    clear hsa ha hb hw ha6 hb6 T
    go_enter Tryd.func7, Tryd.ntmps7
    go_wp2_with fail
    refine G1.out.mono ?_
    rintro e w' ⟨rfl, rfl⟩
    go_wp2_with fail
    refine (awake w TT.out).mono ?_
    rintro e w4 ⟨rfl, b4⟩
    go_wp2
    go_ret
    exact ⟨rfl, b4⟩
end Go.Proofs.YtakhphhpjcpphaaDoor
end
