/- Lemmas of the proofs of this seat, of the parts Conch, Diffw, Ownw, Srtw, Commw, Prew, Pfw, Maxw, Pfxw. Conditions: none. -/
import Derived.Test.YtedcdpmflcegbaaQaf
import Derived.Test.YtedcdpmflcegbaaQaa
import Derived.Test.YtedcdpmflcegbaaProg
import Derived.WalkSpells
import Derived.WalkLawsBesides
import Derived.Outline
import Derived.Deep.QuietTactic
import Derived.BigQuiet
section
/- slices.Concat of lists of headers. -/
namespace Go.Proofs.Ytedcdpmflcegbaa
open Go.RowKit

/-- The slice '.slice A n _' holds rows of headers. -/
def Rows3 (w : World) (A : Option Addr) (n : Nat) (xss : List (List HL)) : Prop :=
  xss.length = n ∧ n ≤ 17592186044416 ∧ (0 < n → ∃ b off, A = some ⟨b, off, none⟩ ∧ b < w.heap.size ∧
    ∀ j, j < n → ∃ Aj nj cj, w.cell? ⟨b, off + j, none⟩ = some (.slice Aj nj cj) ∧ Hds w Aj nj (xss.getD j []))
theorem Rows3.below {w w' : World} {A : Option Addr} {n : Nat} {xss : List (List HL)} (h : Rows3 w A n xss) (hb : Below w.heap.size w w') : Rows3 w' A n xss :=
  ⟨h.1, h.2.1, fun hn => by
    obtain ⟨b, off, e, hlt, hc⟩ := h.2.2 hn
    refine ⟨b, off, e, Nat.lt_of_lt_of_le hlt hb.size, fun j hj => ?_⟩
    obtain ⟨Aj, nj, cj, h1, h2⟩ := hc j hj
    exact ⟨Aj, nj, cj, (hb.cell hlt).trans h1, h2.below hb⟩⟩
theorem Rows3.at_ {w : World} {A : Option Addr} {n : Nat} {xss : List (List HL)} (h : Rows3 w A n xss) {k : Nat} (hk : k < n) :
    ∃ b off Aj nj cj, A = some ⟨b, off, none⟩ ∧ b < w.heap.size ∧ w.cell? ⟨b, off + k, none⟩ = some (.slice Aj nj cj) ∧ Hds w Aj nj (xss.getD k []) := by
  obtain ⟨b, off, e, hlt, hc⟩ := h.2.2 (by omega)
  obtain ⟨Aj, nj, cj, h1, h2⟩ := hc k hk
  exact ⟨b, off, Aj, nj, cj, e, hlt, h1, h2⟩
/-- One list of headers, as a literal makes it. -/
theorem Rows3.one (w : World) (A : Option Addr) (n c : Nat) (ps : List HL) (h : Hds w A n ps) :
    Rows3 (w.alloc (.cells #[.slice A n c] 22)) (some ⟨w.heap.size, 0, none⟩) 1 [ps] := by
  have hb : Below w.heap.size w (w.alloc (.cells #[.slice A n c] 22)) := (Below.refl _ _).alloc (Nat.le_refl _) _
  refine ⟨rfl, by omega, fun _ => ⟨w.heap.size, 0, rfl, by simp, fun j hj => ?_⟩⟩
  obtain rfl : j = 0 := by omega
  refine ⟨A, n, c, ?_, h.below hb⟩
  have := cell_of_row (w.alloc (.cells #[.slice A n c] 22)) w.heap.size 0 #[.slice A n c] 22 (0, 0) (heap_alloc_new w _)
  rw [Nat.zero_add, this]; rfl

/-- The first j lists, one after the other. -/
def catH (xss : List (List HL)) (j : Nat) : List HL := (xss.take j).flatten
theorem catH_zero (xss : List (List HL)) : catH xss 0 = [] := by simp [catH]
theorem catH_succ {xss : List (List HL)} {j : Nat} (h : j < xss.length) : catH xss (j + 1) = catH xss j ++ xss.getD j [] := by
  unfold catH
  rw [List.take_succ_eq_append_getElem h, List.flatten_append]
  simp [List.getD, h]
theorem catH_all (xss : List (List HL)) : catH xss xss.length = xss.flatten := by simp [catH]
theorem catH_len (xss : List (List HL)) (j : Nat) : (catH xss j).length ≤ xss.flatten.length := by
  have h : xss.flatten = catH xss j ++ (xss.drop j).flatten := by unfold catH; rw [← List.flatten_append, List.take_append_drop]
  rw [h, List.length_append]; omega

set_option maxHeartbeats 1000000 in
set_option maxRecDepth 100000 in
theorem sconcath (A : Option Addr) (n c : Nat) (xss : List (List HL)) (w : World) (h : Rows3 w A n xss) (hlen : xss.flatten.length ≤ 1759218604441) :
    Calls Try.prog 70 #[.slice A n c] w fun e w' => ∃ A' c', e = .returned (.slice A' xss.flatten.length c') ∧ HRow w' w.heap.size (.slice A' xss.flatten.length c') xss.flatten ∧ Below w.heap.size w w' := by
  have L := Lib.hid h.1
  have hn := h.2.1
  have hall := Lib.hid (show catH xss n = xss.flatten by rw [← L.out, catH_all])
  have hcl := Lib.hid (fun j => Nat.le_trans (catH_len xss j) hlen)
  clear hlen
  go_enter Try.func70, Try.ntmps70
  go_wp2
  go_loop [3, 11] (fun s i => ∃ k : Nat, k ≤ n ∧ i = .int .i64 k ∧ s = .int .i64 (catH xss k).length) (fun _ i => n - (intOf i).toNat)
  case atStart => exact ⟨0, Nat.zero_le _, rfl, by rw [catH_zero]; rfl⟩
  case round =>
    obtain ⟨k, hk, rfl, rfl⟩ := hrel
    by_cases hlt : k < n
    · obtain ⟨b, off, Aj, nj, cj, rfl, _, hcell, hI⟩ := h.at_ hlt
      have hs : (catH xss (k + 1)).length = (catH xss k).length + nj := by rw [catH_succ (by rw [L.out]; exact hlt), List.length_append, hI.1]
      have hc1 := hcl.out (k + 1)
      generalize (catH xss k).length = a at hs
      generalize hz : (catH xss (k + 1)).length = z at hs hc1
      have HZ := Lib.hid hz
      have u1 : ((a : Int) + (nj : Int)) = (z : Int) := by omega
      have d1 : decide (((z : Nat) : Int) < 0) = false := by simp
      clear hI hz hs
      go_wp2
      go_round
      case rel => exact ⟨k + 1, by omega, by go_num, by rw [HZ.out]⟩
      case measure => simp [intOf]; omega
    · obtain rfl : k = n := by omega
      rw [hall.out]
      have hf := hcl.out k
      rw [hall.out] at hf
      obtain ⟨F, hF⟩ : ∃ F : Nat, F = xss.flatten.length := ⟨_, rfl⟩
      rw [← hF] at hf ⊢
      have HF := Lib.hid hF
      clear hF
      go_wp2_with fail
      refine (grow_nilh F hf _).mono ?_
      rintro e w1 ⟨v1, rfl, o1, b1⟩
      have O1 := Lib.hid o1
      clear o1
      go_wp2
      go_loopw [6, 27] (fun v i wr => ∃ q : Nat, q ≤ k ∧ i = .int .i64 q ∧ HRow wr w.heap.size v (catH xss q) ∧ Below w.heap.size w wr) (fun _ i _ => k - (intOf i).toNat)
      case atStart => exact ⟨0, Nat.zero_le _, rfl, by rw [catH_zero]; exact O1.out, b1⟩
      case round =>
        obtain ⟨q, hq, rfl, hown, hbr⟩ := hrel
        by_cases hlt : q < k
        · obtain ⟨b, off, Aj, nj, cj, rfl, _, hcell, hI⟩ := (h.below hbr).at_ hlt
          have hs := Lib.hid (catH_succ (xss := xss) (j := q) (by rw [L.out]; exact hlt))
          have hb2 := hcl.out (q + 1)
          rw [hs.out] at hb2
          obtain ⟨v', w', hr, ho', _, hbel'⟩ := run_append_heads (c := cj) hown hI hbr.size hb2
          rw [← hs.out] at ho'
          have O2 := Lib.hid ho'
          have B2 := Lib.hid (hbr.trans hbel')
          clear hb2 hI hown hbr ho' hbel'
          go_wp2_with (at_builtin; refine Lib.wpList_append_run _ rfl _ _ _ _ rfl _ _ rfl rfl _ _ hr ?_)
          go_roundw
          case rel => exact ⟨q + 1, by omega, by go_num, O2.out, B2.out⟩
          case measure => simp [intOf]; omega
        · obtain rfl : q = k := by omega
          rw [hall.out] at hown
          have hf2 := hown.form
          obtain ⟨A2, c2, rfl⟩ := hf2
          have O2 := Lib.hid hown
          clear hown
          go_wp2
          go_ret
          exact ⟨A2, c2, rfl, O2.out, hbr⟩

/-- Concat of one list of headers. -/
theorem sconcath1 (A : Option Addr) (n c : Nat) (ps : List HL) (w : World) (h : Hds w A n ps) (hn : n ≤ 1759218604441) :
    Calls Try.prog 70 #[.slice (some ⟨w.heap.size, 0, none⟩) 1 1] (w.alloc (.cells #[.slice A n c] 22)) fun e w' => ∃ A' c', e = .returned (.slice A' n c') ∧ HRow w' w.heap.size (.slice A' n c') ps ∧ Below w.heap.size w w' := by
  have hl := h.1
  refine (sconcath _ _ _ [ps] _ (Rows3.one w A n c ps h) (by simp; omega)).mono ?_
  rintro e w' ⟨A', c', rfl, hv, hb⟩
  rw [show ([ps] : List (List HL)).flatten = ps by simp, hl] at hv
  refine ⟨A', c', by rw [show ([ps] : List (List HL)).flatten = ps by simp, hl], hv.lower (by simp), ((Below.refl _ _).alloc (Nat.le_refl _) _).trans (hb.mono (by simp))⟩
end Go.Proofs.Ytedcdpmflcegbaa
end

section
/- different: the different words of a list, sorted by an order; they share memory with the list. -/
namespace Go.Proofs.Ytedcdpmflcegbaa
open Go.RowKit Go.Shelf

theorem InAt.off {w : World} {base top : Nat} {v : Value} {ps : List HL} {p : HL} (hp : InAt w top p) (h : HRow w base v ps) (ht : top ≤ base) : InOff w v.ownBlock p := by
  obtain ⟨A, n, c, e, hi, _, ho⟩ := hp
  refine ⟨A, n, c, e, hi, fun a ha hn e2 => ?_⟩
  have h1 := ho a ha hn
  have h2 := (h.lt a.block e2.symm).1
  omega

set_option maxHeartbeats 1000000 in
set_option maxRecDepth 100000 in
theorem pcompact (w : World) (base : Nat) (A : Option Addr) (n c : Nat) (ps : List HL) (hn : n ≤ 17592186044416) (h : HRow w base (.slice A n c) ps) (hin : ∀ p, p ∈ ps → InOff w (Value.ownBlock (.slice A n c)) p) :
    Calls Try.prog 71 #[.slice A n c, .func (.func 72) #[] #[]] w fun e w' =>
      e = .returned (.slice A (cpU ps ps.length).length c) ∧ HRow w' base (.slice A (cpU ps ps.length).length c) (cpU ps ps.length) ∧ w.grownBy w' (Value.ownBlock (.slice A n c)) := by
  have hl : ps.length = n := by obtain ⟨A', c', e⟩ := h.form; cases e; rfl
  by_cases h2 : 2 ≤ n
  · rcases h.1.2 with ⟨e, h0⟩ | ⟨g, cap, cur, e, _⟩
    · omega
    · have e' := e
      injection e with e1 e2 e3
      subst e1
      exact pcpt2 w base g n c ps h2 hn h hin
  · have e := Lib.hid (cpU_one (ps := ps) (by omega))
    have L := Lib.hid hl
    have HH := Lib.hid h
    clear h hin hl
    go_enter Try.func71, Try.ntmps71
    go_wp2
    go_ret
    exact ⟨by rw [e.out, L.out]; rfl, by rw [e.out, L.out]; exact HH.out, World.grownBy.refl w _⟩

/-- A row of different words that lie below the call's own blocks. -/
def Diff (o : List Int → List Int → Int) (w : World) (A : Option Addr) (m c : Nat) (xss : List (List Int)) (w' : World) : Prop :=
  ∃ qs : List HL, HRow w' w.heap.size (.slice A m c) qs ∧ (∀ q, q ∈ qs → InAt w' w.heap.size q) ∧ Below w.heap.size w w' ∧ (qs.map Prod.snd).Pairwise (fun x y => o x y < 0) ∧ (∀ x, x ∈ qs.map Prod.snd ↔ x ∈ xss) ∧ m ≤ xss.length

set_option maxHeartbeats 1000000 in
theorem pdifferent (f : Nat) (o : List Int → List Int → Int) (O : TotO o) (ef : ∀ args w, (callFunc f args).run Try.prog w = .ok (.enter f args) w) (hord : OrdC f o) (w : World) (A : Option Addr) (n c : Nat) (xss : List (List Int)) (h : ListsC w A n xss) (hn : n ≤ 1759218604441) :
    Calls Try.prog 62 #[.slice A n c, .func (.func f) #[] #[]] w fun e w' => ∃ A' m c', e = .returned (.slice A' m c') ∧ Diff o w A' m c' xss w' := by
  obtain ⟨ps, hps, hd, hin⟩ := h.hds
  have hpl := Lib.hid hd.1
  have HD := Lib.hid hd
  have HIN := Lib.hid hin
  have HPS := Lib.hid hps
  have XL := Lib.hid h.1
  have OO := Lib.hid O
  have OC := Lib.hid hord
  clear h hps hd hin O hord
  go_enter Try.func62, Try.ntmps62
  go_wp2_with fail
  refine (sconcath1 A n c ps w HD.out hn).mono ?_
  rintro e w1 ⟨A1, c1, rfl, r1, b1⟩
  have R1 := Lib.hid r1
  have B1 := Lib.hid b1
  have IN1 := Lib.hid (fun p hp => (HIN.out p hp).below b1)
  clear r1 b1
  go_wp2_with fail
  refine (parrange f o OO.out ef OC.out w1 w.heap.size A1 n c1 ps (by omega) R1.out (fun p hp => (IN1.out p hp).off R1.out (Nat.le_refl _))).mono ?_
  rintro e w2 ⟨rfl, ps', hp', hs', r2, g2⟩
  have PP := Lib.hid hp'
  have SS := Lib.hid hs'
  have R2 := Lib.hid r2
  have G2 := Lib.hid g2
  have B2 := Lib.hid ((Below.refl w1.heap.size w1 |>.mono B1.out.size).grown g2 B1.out.size (fun k hk => (R1.out.lt k hk).1))
  have IN2 := Lib.hid (show ∀ p, p ∈ ps' → InAt w2 w.heap.size p from fun p hp => (IN1.out p (PP.out.mem_iff.1 hp)).on B2.out)
  clear hp' hs' r2 g2
  go_wp2_with fail
  refine (pcompact w2 w.heap.size A1 n c1 ps' (by omega) R2.out (fun p hp => (IN2.out p hp).off R2.out (Nat.le_refl _))).mono ?_
  rintro e w3 ⟨rfl, r3, g3⟩
  have R3 := Lib.hid r3
  have B3 := Lib.hid ((Below.refl w2.heap.size w2 |>.mono (Nat.le_trans B1.out.size B2.out.size)).grown g3 (Nat.le_trans B1.out.size B2.out.size) (fun k hk => (R2.out.lt k hk).1))
  clear r3 g3
  go_wp2
  go_ret
  have hall := cpU_all OO.out SS.out
  refine ⟨A1, _, c1, rfl, _, R3.out, fun q hq => (IN2.out q (cpU_sub ps' _ q hq)).on B3.out, B1.out.trans (B2.out.trans B3.out), hall.1, fun x => (hall.2 x).trans ?_, ?_⟩
  · rw [(PP.out.map Prod.snd).mem_iff, HPS.out]
  · have h1 := cpU_le ps' ps'.length
    have h2 := PP.out.length_eq
    rw [XL.out]
    have h3 := hpl.out
    omega
end Go.Proofs.Ytedcdpmflcegbaa
end

section
/- Rows of words of one's own, in blocks apart; copies. -/
namespace Go.Proofs.Ytedcdpmflcegbaa
open Go.RowKit Go.Shelf

/-- Rows of one's own, in blocks apart from each other. -/
def OwnR (w : World) (base : Nat) (v : Value) (qs : List HL) : Prop :=
  HRow w base v qs ∧ (∀ q, q ∈ qs → Owned w base q.1 q.2) ∧ qs.Pairwise fun p q => ∀ g, p.1.ownBlock = some g → q.1.ownBlock ≠ some g
/-- The slice value v is a row of the words xss, in blocks from base on, which the call may write, apart from each other. -/
def OwnW (w : World) (base : Nat) (v : Value) (xss : List (List Int)) : Prop := ∃ qs, OwnR w base v qs ∧ qs.map Prod.snd = xss

theorem OwnR.nil (w : World) (base : Nat) : OwnR w base (.slice none 0 0) [] := ⟨HRow.nil w base, fun q h => absurd h (by simp), List.Pairwise.nil⟩
theorem OwnR.kept {w w' : World} {base : Nat} {v : Value} {qs : List HL} (h : OwnR w base v qs) (hb : Below w.heap.size w w') : OwnR w' base v qs := ⟨h.1.kept hb, fun q hq => (h.2.1 q hq).kept hb, h.2.2⟩
theorem OwnR.lower {w : World} {base base' : Nat} {v : Value} {qs : List HL} (h : OwnR w base v qs) (hb : base' ≤ base) : OwnR w base' v qs := ⟨h.1.lower hb, fun q hq => (h.2.1 q hq).lower hb, h.2.2⟩
theorem OwnW.kept {w w' : World} {base : Nat} {v : Value} {xss : List (List Int)} (h : OwnW w base v xss) (hb : Below w.heap.size w w') : OwnW w' base v xss := by
  obtain ⟨qs, h, e⟩ := h
  exact ⟨qs, h.kept hb, e⟩
theorem OwnW.lower {w : World} {base base' : Nat} {v : Value} {xss : List (List Int)} (h : OwnW w base v xss) (hb : base' ≤ base) : OwnW w base' v xss := by
  obtain ⟨qs, h, e⟩ := h
  exact ⟨qs, h.lower hb, e⟩
theorem OwnW.form {w : World} {base : Nat} {v : Value} {xss : List (List Int)} (h : OwnW w base v xss) : ∃ A c, v = .slice A xss.length c := by
  obtain ⟨qs, h, e⟩ := h
  obtain ⟨A, c, e2⟩ := h.1.form
  exact ⟨A, c, by rw [e2, ← e, List.length_map]⟩
theorem Owned.bounds {w : World} {base : Nat} {v : Value} {xs : List Int} (h : Owned w base v xs) : ∃ A c, v = .slice A xs.length c ∧ xs.length ≤ c ∧ ∀ a, A = some a → a.block < w.heap.size ∧ base ≤ a.block := by
  rcases h.2 with ⟨rfl, h0⟩ | ⟨g, cap, cur, rfl, hb, hg, hc, _⟩
  · exact ⟨none, 0, by rw [h0], by omega, fun a h => by cases h⟩
  · exact ⟨_, cap, rfl, hc, fun a h => by cases h; exact ⟨heap_lt hg, hb⟩⟩
theorem OwnR.inAt {w : World} {base : Nat} {v : Value} {qs : List HL} (h : OwnR w base v qs) (hr : ∀ q, q ∈ qs → q.2.length ≤ 17592186044416) : ∀ q, q ∈ qs → InAt w w.heap.size q := fun q hq => by
  have ho := h.2.1 q hq
  obtain ⟨A, c, e, hc, hb⟩ := ho.bounds
  exact ⟨A, _, c, e, (by rw [e] at ho; exact ho.ints (hr q hq)), hc, fun a ha _ => (hb a ha).1⟩
theorem OwnR.off {w : World} {base : Nat} {v : Value} {qs : List HL} (h : OwnR w base v qs) (hr : ∀ q, q ∈ qs → q.2.length ≤ 17592186044416) : ∀ q, q ∈ qs → InOff w v.ownBlock q := fun q hq => by
  have ho := h.2.1 q hq
  obtain ⟨A, c, e, hc, hb⟩ := ho.bounds
  refine ⟨A, _, c, e, (by rw [e] at ho; exact ho.ints (hr q hq)), fun a ha hn e2 => ?_⟩
  subst ha
  rw [e] at ho
  rcases ho.2 with ⟨e3, _⟩ | ⟨g, cap, cur, e3, _, hg, _⟩
  · cases e3
  · cases e3
    rcases h.1.1.2 with ⟨e4, _⟩ | ⟨g', cap', cur', e4, _, hg', _⟩
    · rw [e4] at e2; simp [Value.ownBlock] at e2
    · rw [e4] at e2
      have : g = g' := by simpa [Value.ownBlock] using e2
      subst this
      rw [hg] at hg'
      injection hg' with hg'
      injection hg' with _ h2 _
      exact absurd h2 (by decide)
theorem OwnW.lists {w : World} {base : Nat} {A : Option Addr} {n c : Nat} {xss : List (List Int)} (h : OwnW w base (.slice A n c) xss) (hm : xss.length ≤ 17592186044416) (hr : ∀ x, x ∈ xss → x.length ≤ 17592186044416) : ListsC w A n xss := by
  obtain ⟨qs, h, rfl⟩ := h
  exact (h.1.hds (by rw [List.length_map] at hm; exact hm)).lists (h.inAt fun q hq => hr _ (List.mem_map_of_mem hq))

/-- One more row of one's own: what its append leaves. -/
theorem OwnR.app {w0 w w' : World} {base : Nat} {v v' : Value} {qs : List HL} {B : Option Addr} {m d : Nat} {xs : List Int} (h : OwnR w0 base v qs) (hb0 : Below w0.heap.size w0 w) (hx : Owned w w0.heap.size (.slice B m d) xs) (hbase : base ≤ w0.heap.size)
    (hr : HRow w' base v' (qs ++ [(.slice B m d, xs)])) (hg : w.grownBy w' v.ownBlock) : OwnR w' base v' (qs ++ [(.slice B m d, xs)]) := by
  have h1 := h.kept hb0
  have hk : KeptT 3 w w' := KeptT.grown hg h1.1.1 (by decide)
  refine ⟨hr, fun q hq => ?_, ?_⟩
  · rcases List.mem_append.1 hq with hq | hq
    · exact (h1.2.1 q hq).keptT hk
    · rw [List.mem_singleton] at hq
      subst hq
      exact (hx.lower hbase).keptT hk
  · refine List.pairwise_append.2 ⟨h.2.2, by simp, fun p hp q hq => ?_⟩
    rw [List.mem_singleton] at hq
    subst hq
    intro g e1 e2
    have a := (World.ownsRow.lt (h.2.1 p hp) g e1).2
    have b := (World.ownsRow.lt hx g e2).1
    omega

set_option maxHeartbeats 1000000 in
set_option maxRecDepth 100000 in
theorem pcopies (w : World) (A : Option Addr) (n c : Nat) (xss : List (List Int)) (h : ListsC w A n xss) (hn : n ≤ 1759218604441) :
    Calls Try.prog 47 #[.slice A n c] w fun e w' => ∃ v, e = .returned v ∧ OwnW w' w.heap.size v xss ∧ Below w.heap.size w w' := by
  have L := Lib.hid h.1
  have HL0 := Lib.hid h
  clear h
  go_enter Try.func47, Try.ntmps47
  go_wp2
  go_loopw [3, 8] (fun v i wr => ∃ (k : Nat) (qs : List HL), k ≤ n ∧ i = .int .i64 k ∧ OwnR wr w.heap.size v qs ∧ Hid (qs.map Prod.snd = xss.take k) ∧ Below w.heap.size w wr) (fun _ i _ => n - (intOf i).toNat)
  case atStart => exact ⟨0, [], Nat.zero_le _, rfl, OwnR.nil _ _, Lib.hid (by simp), Below.refl _ _⟩
  case round =>
    obtain ⟨k, qs, hk, rfl, hown, hq, hbr⟩ := hrel
    by_cases hlt : k < n
    · obtain ⟨b, off, Aj, nj, cj, rfl, _, hcell, _, hI⟩ := (HL0.out.below hbr).at_ hlt
      have HO := Lib.hid hown
      have HB := Lib.hid hbr
      have QL := Lib.hid (show qs.length = k by have := congrArg List.length hq.out; rw [List.length_map, List.length_take, L.out] at this; omega)
      clear hown hbr
      go_wp2_with fail
      refine (wjoin1 Aj nj cj _ wr hI).mono ?_
      rintro e w1 ⟨A1, c1, rfl, ho1, hb1⟩
      have H1 := HO.out.kept hb1
      obtain ⟨A2, c2, w2, hr, h2, hg2, hb2⟩ := run_append_head (B := A1) (m := nj) (d := c1) H1.1 (xss.getD k []) (Nat.le_trans HB.out.size hb1.size) (by rw [QL.out]; omega)
      have H2 := Lib.hid (HO.out.app hb1 ho1 HB.out.size h2 hg2)
      have B2 := Lib.hid (HB.out.trans ((hb1.mono HB.out.size).trans hb2))
      rw [QL.out] at hr H2
      clear hI ho1 hb1 H1 h2 hg2 hb2
      go_wp2_with (at_builtin; refine Lib.wpList_append_run _ rfl _ _ _ _ rfl _ _ rfl rfl _ _ hr ?_)
      go_roundw
      case rel => exact ⟨k + 1, _, by omega, by go_num, H2.out, Lib.hid (by
        rw [List.map_append, hq.out, List.take_succ_eq_append_getElem (by rw [L.out]; exact hlt)]
        simp [List.getD, show k < xss.length by rw [L.out]; exact hlt]), B2.out⟩
      case measure => simp [intOf]; omega
    · obtain rfl : k = n := by omega
      have H2 := Lib.hid hown
      clear hown
      go_wp2
      go_ret
      exact ⟨_, rfl, ⟨qs, H2.out, by rw [hq.out, ← L.out, List.take_length]⟩, hbr⟩
end Go.Proofs.Ytedcdpmflcegbaa
end

section
/- Sorted; slices of a word by its first symbols. -/
namespace Go.Proofs.Ytedcdpmflcegbaa
open Go.RowKit Go.Shelf

theorem addr_add0 (a : Addr) : a.add 0 = a := by
  obtain ⟨b, o, s⟩ := a
  cases s with
  | none => rfl
  | some s => simp [Addr.add]
theorem run_slice_to (W : World) (B : Option Addr) (m d t : Nat) (h : t ≤ d) : (Instr.slice 27 (.slice B m d) none (some (.int .i64 t)) none).run Try.prog W = .ok (.slice B t d) W := by
  obtain ⟨i, hi, hz0, hz1, hz2⟩ := info_parts info3
  have e : Try.prog.elem 27 = 3 := by kernel_rfl
  rw [run_slice_h W 27 B m d (by rw [e]; exact Try.underlying27) .i64 t (by omega) (by omega), e]
  have hs : (sizeOf 3).run Try.prog W = .ok 1 W := by simp [sizeOf, typeInfo, hi, hz1]
  rw [hs]
  simp only [Result.andThen, sliced]
  cases B with
  | none => simp
  | some a => simp [addr_add0]

/-- What a row of different words leaves: the words, their headers, the list. -/
theorem Diff.open {o : List Int → List Int → Int} {w w' : World} {A : Option Addr} {m c : Nat} {xss : List (List Int)} (h : Diff o w A m c xss w') (hn : xss.length ≤ 17592186044416) :
    ∃ ps : List HL, Hds w' A m ps ∧ (∀ q, q ∈ ps → InAt w' w.heap.size q) ∧ ListsC w' A m (ps.map Prod.snd) ∧ Below w.heap.size w w' ∧ (ps.map Prod.snd).Pairwise (fun x y => o x y < 0) ∧ (∀ x, x ∈ ps.map Prod.snd ↔ x ∈ xss) ∧ m ≤ xss.length := by
  obtain ⟨qs, h1, h2, h3, h4, h5, h6⟩ := h
  have hl : qs.length = m := by obtain ⟨A', c', e⟩ := h1.form; cases e; rfl
  have hd := h1.hds (by omega)
  exact ⟨qs, hd, h2, hd.lists h2, h3, h4, h5, h6⟩

end Go.Proofs.Ytedcdpmflcegbaa
end

section
/- word.Common. -/
namespace Go.Proofs.Ytedcdpmflcegbaa
open Go.RowKit

set_option maxHeartbeats 400000 in
theorem wcommon (A B : Option Addr) (n c m d : Nat) (xs ys : List Int) (w : World) (hx : Ints w A n xs) (hy : Ints w B m ys) :
    Calls Try.prog 63 #[.slice A n c, .slice B m d] w fun e w' => e = .returned (.int .i64 (cmn xs ys)) ∧ ∃ q, w' = w.drewN q := by
  have L1 := Lib.hid hx.1
  have L2 := Lib.hid hy.1
  have hn := hx.2.1
  have hm := hy.2.1
  by_cases hnm : m < n
  · go_enter Try.func63, Try.ntmps63
    go_wp2
    go_loopw [13] (fun i wr => ∃ j : Nat, j ≤ m ∧ i = .int .i64 j ∧ Agree xs ys j ∧ ∃ q, wr = w.drewN q) (fun i _ => m - (intOf i).toNat)
    case atStart => exact ⟨0, Nat.zero_le _, rfl, Agree.zero _ _, 0, rfl⟩
    case round =>
      obtain ⟨j, hj, rfl, ha, q, rfl⟩ := hrel
      by_cases hlt : j < m
      · obtain ⟨b1, o1, rfl, _, hc1⟩ := hx.at_ (k := j) (by omega)
        obtain ⟨b2, o2, rfl, _, hc2⟩ := hy.at_ (k := j) (by omega)
        by_cases he : xs[j]?.getD 0 = ys[j]?.getD 0
        · have ha' := Lib.hid (ha.succ (by simpa using he))
          have hb : (xs[j]?.getD 0 != ys[j]?.getD 0) = false := by simp [he]
          have hE := Lib.hid he
          clear he ha
          go_wp2
          go_quiet (fail)
          go_wp2
          go_roundw
          case rel => exact ⟨j + 1, by omega, by go_num, ha'.out, by first | exact ⟨_, rfl⟩ | exact ⟨_, World.drewN_drewN _ _ _⟩⟩
          case measure => simp [intOf]; omega
        · have hfin := Lib.hid (cmn_eq (j := j) (by rw [L1.out]; omega) (by rw [L2.out]; omega) ha (.inr (.inr (by simpa using he))))
          have hb : (xs[j]?.getD 0 != ys[j]?.getD 0) = true := by simpa using he
          clear he ha
          go_wp2
          go_quiet (fail)
          go_wp2
          go_ret
          exact ⟨ret_int (by rw [hfin.out] <;> omega), by first | exact ⟨_, rfl⟩ | exact ⟨_, World.drewN_drewN _ _ _⟩⟩
      · have hfin := Lib.hid (cmn_eq (j := m) (by rw [L1.out]; omega) (by rw [L2.out]; omega) ((by omega : j = m) ▸ ha) (by rw [L1.out, L2.out]; omega))
        go_wp2
        go_ret
        exact ⟨ret_int (by rw [hfin.out] <;> omega), by first | exact ⟨_, rfl⟩ | exact ⟨_, World.drewN_drewN _ _ _⟩⟩
  · go_enter Try.func63, Try.ntmps63
    go_wp2
    go_loopw [13] (fun i wr => ∃ j : Nat, j ≤ n ∧ i = .int .i64 j ∧ Agree xs ys j ∧ ∃ q, wr = w.drewN q) (fun i _ => n - (intOf i).toNat)
    case atStart => exact ⟨0, Nat.zero_le _, rfl, Agree.zero _ _, 0, rfl⟩
    case round =>
      obtain ⟨j, hj, rfl, ha, q, rfl⟩ := hrel
      by_cases hlt : j < n
      · obtain ⟨b1, o1, rfl, _, hc1⟩ := hx.at_ (k := j) (by omega)
        obtain ⟨b2, o2, rfl, _, hc2⟩ := hy.at_ (k := j) (by omega)
        by_cases he : xs[j]?.getD 0 = ys[j]?.getD 0
        · have ha' := Lib.hid (ha.succ (by simpa using he))
          have hb : (xs[j]?.getD 0 != ys[j]?.getD 0) = false := by simp [he]
          have hE := Lib.hid he
          clear he ha
          go_wp2
          go_quiet (fail)
          go_wp2
          go_roundw
          case rel => exact ⟨j + 1, by omega, by go_num, ha'.out, by first | exact ⟨_, rfl⟩ | exact ⟨_, World.drewN_drewN _ _ _⟩⟩
          case measure => simp [intOf]; omega
        · have hfin := Lib.hid (cmn_eq (j := j) (by rw [L1.out]; omega) (by rw [L2.out]; omega) ha (.inr (.inr (by simpa using he))))
          have hb : (xs[j]?.getD 0 != ys[j]?.getD 0) = true := by simpa using he
          clear he ha
          go_wp2
          go_quiet (fail)
          go_wp2
          go_ret
          exact ⟨ret_int (by rw [hfin.out] <;> omega), by first | exact ⟨_, rfl⟩ | exact ⟨_, World.drewN_drewN _ _ _⟩⟩
      · have hfin := Lib.hid (cmn_eq (j := n) (by rw [L1.out]; omega) (by rw [L2.out]; omega) ((by omega : j = n) ▸ ha) (by rw [L1.out, L2.out]; omega))
        go_wp2
        go_ret
        exact ⟨ret_int (by rw [hfin.out] <;> omega), by first | exact ⟨_, rfl⟩ | exact ⟨_, World.drewN_drewN _ _ _⟩⟩
end Go.Proofs.Ytedcdpmflcegbaa
end

section
/- prefixes: the different prefixes of the words of a list, in memory that they share with it. -/
namespace Go.Proofs.Ytedcdpmflcegbaa
open Go.RowKit Go.Shelf

theorem Ints.take {w : World} {A : Option Addr} {n t : Nat} {xs : List Int} (h : Ints w A n xs) (ht : t ≤ n) : Ints w A t (xs.take t) := by
  refine ⟨by rw [List.length_take, h.1]; omega, by have := h.2.1; omega, fun h0 => ?_⟩
  obtain ⟨b, off, e, hlt, hc⟩ := h.2.2 (by omega)
  refine ⟨b, off, e, hlt, fun j hj => ?_⟩
  rw [hc j (by omega)]
  simp [List.getD, hj]
theorem prU_len {ws : List (List Int)} {L : Nat} (h : ∀ x, x ∈ ws → x.length ≤ L) (i : Nat) (hi : i ≤ ws.length) : (prU ws i).length ≤ i * (L + 1) := by
  induction i with
  | zero => simp [prU]
  | succ i ih =>
    rw [prU, List.length_append, tks_len]
    have h1 := ih (by omega)
    have h2 := h (ws.getD i []) (by rw [List.getD_eq_getElem?_getD, List.getElem?_eq_getElem (show i < ws.length by omega)]; exact List.getElem_mem _)
    rw [Nat.succ_mul]; omega

/-- Shared rows: what prefixes and maximal return. -/
def Shr (w : World) (A : Option Addr) (m c : Nat) (words : List (List Int)) (w' : World) : Prop :=
  ∃ qs : List HL, HRow w' w.heap.size (.slice A m c) qs ∧ (∀ q, q ∈ qs → InAt w' w.heap.size q) ∧ Below w.heap.size w w' ∧ qs.map Prod.snd = words
/-- The prefixes, each once. -/
def Pfxs (xss words : List (List Int)) (L : Nat) : Prop := words.Nodup ∧ (∀ x, x ∈ words ↔ ∃ y, y ∈ xss ∧ x <+: y) ∧ words.length ≤ xss.length * (L + 1)

set_option maxHeartbeats 2000000 in
set_option maxRecDepth 100000 in
theorem pprefixes (w : World) (A : Option Addr) (n c L : Nat) (xss : List (List Int)) (h : ListsC w A n xss) (hL : ∀ x, x ∈ xss → x.length ≤ L) (hn : n * (L + 1) ≤ 1759218604441) :
    Calls Try.prog 48 #[.slice A n c] w fun e w' => ∃ A' m c' words, e = .returned (.slice A' m c') ∧ Shr w A' m c' words w' ∧ Pfxs xss words L := by
  have XL := Lib.hid h.1
  have HL0 := Lib.hid h
  have HLL := Lib.hid hL
  have hn1 : n ≤ 1759218604441 := by
    have := Nat.mul_le_mul_left n (show 1 ≤ L + 1 by omega)
    omega
  have HN := Lib.hid hn
  clear h hL hn
  go_enter Try.func48, Try.ntmps48
  go_wp2_with fail
  refine (pdifferent 52 lexi totL entL ordL w A n c xss HL0.out hn1).mono ?_
  rintro e w1 ⟨A1, m, c1, rfl, hD⟩
  obtain ⟨ps, hd, hin, l1, b1, hasc, hmem, hm⟩ := hD.open (by rw [XL.out]; omega)
  obtain ⟨ws, hws⟩ : ∃ ws, ws = ps.map Prod.snd := ⟨_, rfl⟩
  rw [← hws] at hasc hmem l1
  have WS := Lib.hid hws
  have HD := Lib.hid hd
  have HIN := Lib.hid hin
  have B1 := Lib.hid b1
  have ASC := Lib.hid (ascL_of hasc)
  have MEM := Lib.hid hmem
  have LW := Lib.hid (show ws.length = m by rw [hws, List.length_map]; exact hd.1)
  have hm2 := hd.2.1
  have ML := Lib.hid (show m ≤ xss.length from hm)
  have PL := Lib.hid (show ∀ i, i ≤ m → (prU ws i).length ≤ xss.length * (L + 1) from fun i hi => Nat.le_trans (prU_len (L := L) (fun x hx => HLL.out x ((hmem x).1 hx)) i (by rw [LW.out]; exact hi)) (Nat.mul_le_mul_right _ (Nat.le_trans hi hm)))
  clear hD hasc hmem hm b1 l1 hd hin hws
  go_wp2
  go_loopw [4, 13] (fun v i wr => ∃ (k : Nat) (fs : List HL), k ≤ m ∧ i = .int .i64 k ∧ HRow wr w1.heap.size v fs ∧ Hid (∀ f, f ∈ fs → InAt wr w.heap.size f) ∧ Hid (fs.map Prod.snd = prU ws k) ∧ Below w1.heap.size w1 wr) (fun _ i _ => m - (intOf i).toNat)
  case atStart => exact ⟨0, [], Nat.zero_le _, rfl, HRow.nil _ _, Lib.hid (fun f hf => absurd hf (by simp)), Lib.hid rfl, Below.refl _ _⟩
  case round =>
    obtain ⟨k, fs, hk, rfl, hrow, hfin, hfs, hbr⟩ := hrel
    by_cases hlt : k < m
    · obtain ⟨b, off, B, mm, d, rfl, _, hp, hcell, hmd, hI, hik⟩ := (HD.out.below hbr).in_at (fun p hp => (HIN.out p hp).below hbr) hlt
      rw [← WS.out] at hI hik
      have IK0 := hik
      have IK := Lib.hid (show InAt w1 w.heap.size (Value.slice B mm d, ws.getD k []) from by
        have := HIN.out _ (List.mem_of_getElem? hp)
        rw [← WS.out] at this
        exact this)
      have WKL := Lib.hid (show (ws.getD k []).length = mm from hI.1)
      have hmm := hI.2.1
      have HR := Lib.hid hrow
      have HB := Lib.hid hbr
      clear hp hik IK0
      by_cases hk0 : k = 0
      · obtain ⟨F, hF⟩ : ∃ F, F = pf ws k := ⟨_, rfl⟩
        have FP := Lib.hid hF
        have F0 : F = 0 := by rw [hF]; unfold pf; rw [if_pos hk0]
        have hd0 : decide (0 < k) = false := by simp; omega
        have hd1 : ¬ 0 < k := by omega
        have F1 := Lib.hid F0
        have HK0 := Lib.hid hk0
        clear hF hI hrow hbr hk0 F0
        go_wp2
        obtain ⟨wo, hwo⟩ : ∃ wo : World, wo = wr := ⟨_, rfl⟩
        rw [← hwo]
        have HBo := Lib.hid (show Below w1.heap.size w1 wo from by rw [hwo]; exact HB.out)
        have HRo := Lib.hid (show HRow wo w1.heap.size _ fs from by rw [hwo]; exact HR.out)
        have HFo := Lib.hid (show ∀ f, f ∈ fs → InAt wo w.heap.size f from by rw [hwo]; exact hfin.out)
        clear hwo hcell hd0
        go_loopw [4, 8] (fun u s wr => ∃ (t : Nat) (gs : List HL), F ≤ t ∧ t ≤ mm + 1 ∧ s = .int .i64 t ∧ HRow wr w1.heap.size u gs ∧ Hid (∀ f, f ∈ gs → InAt wr w.heap.size f) ∧ Hid (gs.map Prod.snd = prU ws k ++ tks (ws.getD k []) F t) ∧ Below w1.heap.size w1 wr) (fun _ s _ => mm + 1 - (intOf s).toNat)
        case atStart => exact ⟨F, fs, Nat.le_refl _, by rw [F1.out]; omega, by rw [F1.out]; rfl, HRo.out, HFo, Lib.hid (by rw [tks_none, List.append_nil]; exact hfs.out), HBo.out⟩
        case round =>
          obtain ⟨t, gs, hFt, htm, rfl, hrow2, hfin2, hgs, hbr2⟩ := hrel
          by_cases hlt2 : t ≤ mm
          · have hgl : gs.length = (prU ws k).length + (t - F) := by rw [← List.length_map (f := Prod.snd), hgs.out, List.length_append, tks_len]
            have hall := PL.out (k + 1) (by omega)
            rw [prU, List.length_append, tks_len, ← FP.out, WKL.out] at hall
            have hN := HN.out
            rw [XL.out] at hall
            obtain ⟨A2, c2, w3, hr, h3, hg3, hb3⟩ := run_append_head (B := B) (m := t) (d := d) hrow2 ((ws.getD k []).take t) hbr2.size (by omega)
            have hsl := fun W => run_slice_to W B mm d t (by omega)
            have hik := (IK.out.on ((hbr2.mono B1.out.size).trans (hb3.mono B1.out.size)))
            have H3 := Lib.hid h3
            have B3 := Lib.hid (hbr2.trans hb3)
            have F3 := Lib.hid (show ∀ f, f ∈ gs ++ [(Value.slice B t d, (ws.getD k []).take t)] → InAt w3 w.heap.size f from fun f hf => by
              rcases List.mem_append.1 hf with hf | hf
              · exact (hfin2.out f hf).on (hb3.mono B1.out.size)
              · rw [List.mem_singleton] at hf
                subst hf
                obtain ⟨B', m', d', e2, i2, c2', o2⟩ := hik
                cases e2
                exact ⟨B, t, d, rfl, i2.take hlt2, by omega, fun a ha h0 => o2 a ha (by omega)⟩)
            have GL := Lib.hid hgl
            generalize gs.length = gl at hr H3 hgl
            clear hall hN hrow2 hbr2 h3 hg3 hb3 hik hgl GL
            go_wp2_with (at_builtin; refine Lib.wpList_append_run _ rfl _ _ _ _ rfl _ _ rfl rfl _ _ hr ?_)
            go_roundw
            case rel => exact ⟨t + 1, _, by omega, by omega, by go_num, H3.out, F3, Lib.hid (by rw [List.map_append, hgs.out, tks_succ _ hFt, List.append_assoc]; rfl), B3.out⟩
            case measure => simp [intOf]; omega
          · obtain rfl : t = mm + 1 := by omega
            have H3 := Lib.hid hrow2
            have B3 := Lib.hid hbr2
            clear hrow2 hbr2
            go_wp2
            go_roundw
            case rel => exact ⟨k + 1, gs, by omega, by go_num, H3.out, hfin2, Lib.hid (by rw [hgs.out, prU, FP.out, WKL.out]), B3.out⟩
            case measure => simp [intOf]; omega
      · obtain ⟨kp, hkp⟩ : ∃ kp, kp = k - 1 := ⟨_, rfl⟩
        have kpm : kp < m := by omega
        obtain ⟨b', off', Bp, mp, dp, e', _, _, hcp, _, hIp, _⟩ := (HD.out.below hbr).in_at (fun p hp => (HIN.out p hp).below hbr) kpm
        cases e'
        rw [← WS.out] at hIp
        obtain ⟨F, hF⟩ : ∃ F, F = pf ws k := ⟨_, rfl⟩
        have FP := Lib.hid hF
        obtain ⟨C, hC⟩ : ∃ C, C = cmn (ws.getD kp []) (ws.getD k []) := ⟨_, rfl⟩
        have FC : F = C + 1 := by rw [hF, hC, hkp]; unfold pf; rw [if_neg hk0]
        have CM : C ≤ mm := by rw [hC, ← WKL.out]; exact cmn_le_right _ _
        have hd0 : decide ((0 : Int) < (k : Int)) = true := by simp; omega
        have W1 : IntKind.i64.wrap ((k : Int) - 1) = (kp : Int) := by rw [IntKind.wrap_i64]; omega
        have hcall := wcommon Bp B mp dp mm d _ _ wr hIp hI
        rw [← hC] at hcall
        have HC := Lib.hid hcall
        clear hF hI hIp hrow hbr hcall hC hkp
        go_wp2_with (go_at_call 63; refine HC.out.mono ?_; rintro e w' ⟨rfl, q, rfl⟩)
        clear W1
        obtain ⟨wo, hwo⟩ : ∃ wo : World, wo = wr.drewN q := ⟨_, rfl⟩
        rw [← hwo]
        have HBo := Lib.hid (show Below w1.heap.size w1 wo from by rw [hwo]; exact below_drewN HB.out q)
        have HRo := Lib.hid (show HRow wo w1.heap.size _ fs from by rw [hwo]; exact HR.out)
        have HFo := Lib.hid (show ∀ f, f ∈ fs → InAt wo w.heap.size f from by rw [hwo]; exact hfin.out)
        clear hwo hcell hcp hd0
        go_loopw [4, 8] (fun u s wr => ∃ (t : Nat) (gs : List HL), F ≤ t ∧ t ≤ mm + 1 ∧ s = .int .i64 t ∧ HRow wr w1.heap.size u gs ∧ Hid (∀ f, f ∈ gs → InAt wr w.heap.size f) ∧ Hid (gs.map Prod.snd = prU ws k ++ tks (ws.getD k []) F t) ∧ Below w1.heap.size w1 wr) (fun _ s _ => mm + 1 - (intOf s).toNat)
        case atStart => exact ⟨F, fs, Nat.le_refl _, by omega, by rw [FC]; rfl, HRo.out, HFo, Lib.hid (by rw [tks_none, List.append_nil]; exact hfs.out), HBo.out⟩
        case round =>
          obtain ⟨t, gs, hFt, htm, rfl, hrow2, hfin2, hgs, hbr2⟩ := hrel
          by_cases hlt2 : t ≤ mm
          · have hgl : gs.length = (prU ws k).length + (t - F) := by rw [← List.length_map (f := Prod.snd), hgs.out, List.length_append, tks_len]
            have hall := PL.out (k + 1) (by omega)
            rw [prU, List.length_append, tks_len, ← FP.out, WKL.out] at hall
            have hN := HN.out
            rw [XL.out] at hall
            obtain ⟨A2, c2, w3, hr, h3, hg3, hb3⟩ := run_append_head (B := B) (m := t) (d := d) hrow2 ((ws.getD k []).take t) hbr2.size (by omega)
            have hsl := fun W => run_slice_to W B mm d t (by omega)
            have hik := (IK.out.on ((hbr2.mono B1.out.size).trans (hb3.mono B1.out.size)))
            have H3 := Lib.hid h3
            have B3 := Lib.hid (hbr2.trans hb3)
            have F3 := Lib.hid (show ∀ f, f ∈ gs ++ [(Value.slice B t d, (ws.getD k []).take t)] → InAt w3 w.heap.size f from fun f hf => by
              rcases List.mem_append.1 hf with hf | hf
              · exact (hfin2.out f hf).on (hb3.mono B1.out.size)
              · rw [List.mem_singleton] at hf
                subst hf
                obtain ⟨B', m', d', e2, i2, c2', o2⟩ := hik
                cases e2
                exact ⟨B, t, d, rfl, i2.take hlt2, by omega, fun a ha h0 => o2 a ha (by omega)⟩)
            have GL := Lib.hid hgl
            generalize gs.length = gl at hr H3 hgl
            clear hall hN hrow2 hbr2 h3 hg3 hb3 hik hgl GL
            go_wp2_with (at_builtin; refine Lib.wpList_append_run _ rfl _ _ _ _ rfl _ _ rfl rfl _ _ hr ?_)
            go_roundw
            case rel => exact ⟨t + 1, _, by omega, by omega, by go_num, H3.out, F3, Lib.hid (by rw [List.map_append, hgs.out, tks_succ _ hFt, List.append_assoc]; rfl), B3.out⟩
            case measure => simp [intOf]; omega
          · obtain rfl : t = mm + 1 := by omega
            have H3 := Lib.hid hrow2
            have B3 := Lib.hid hbr2
            clear hrow2 hbr2
            go_wp2
            go_roundw
            case rel => exact ⟨k + 1, gs, by omega, by go_num, H3.out, hfin2, Lib.hid (by rw [hgs.out, prU, FP.out, WKL.out]), B3.out⟩
            case measure => simp [intOf]; omega
    · obtain rfl : k = m := by omega
      have H2 := Lib.hid hrow
      have hfl : fs.length = (prU ws k).length := by rw [← hfs.out, List.length_map]
      obtain ⟨A2, c2, rfl⟩ := hrow.form
      clear hrow
      have HB := Lib.hid hbr
      clear hbr
      generalize hz : fs.length = z at hfl H2 ⊢
      have FL := Lib.hid hfl
      have HZ := Lib.hid hz
      clear hfl hz
      go_wp2
      go_ret
      refine ⟨A2, z, c2, prU ws k, rfl, ⟨fs, H2.out.lower B1.out.size, hfin.out, B1.out.trans (HB.out.mono B1.out.size), hfs.out⟩, ?_, fun x => ?_, PL.out k (Nat.le_refl _)⟩
      · have := prU_nodup ASC.out k (by rw [LW.out]; exact Nat.le_refl _)
        exact this
      · have := prU_all (ws := ws) x
        rw [LW.out] at this
        rw [this]
        exact ⟨fun ⟨y, hy, hp⟩ => ⟨y, (MEM.out y).1 hy, hp⟩, fun ⟨y, hy, hp⟩ => ⟨y, (MEM.out y).2 hy, hp⟩⟩
end Go.Proofs.Ytedcdpmflcegbaa
end

section
/- HasPrefix of the program. -/
namespace Go.Proofs.Ytedcdpmflcegbaa
open Go.RowKit

end Go.Proofs.Ytedcdpmflcegbaa
end

section
/- maximal: the different maximal words of a list, in memory that they share with it. -/
namespace Go.Proofs.Ytedcdpmflcegbaa
open Go.RowKit Go.Shelf

/-- The maximal words, each once. -/
def Maxs (xss words : List (List Int)) : Prop := words.Nodup ∧ (∀ x, x ∈ words ↔ Mx xss x) ∧ words.length ≤ xss.length

end Go.Proofs.Ytedcdpmflcegbaa
end

section
/- Prefixes, Maximal, Size, Union. -/
namespace Go.Proofs.Ytedcdpmflcegbaa
open Go.RowKit Go.Shelf

theorem Shr.lists {w w' : World} {A : Option Addr} {m c : Nat} {words : List (List Int)} (h : Shr w A m c words w') (hn : words.length ≤ 17592186044416) : ListsC w' A m words ∧ Below w.heap.size w w' := by
  obtain ⟨qs, h1, h2, h3, rfl⟩ := h
  exact ⟨(h1.hds (by simpa using hn)).lists h2, h3⟩
theorem OwnR.perm {w w' : World} {base : Nat} {v : Value} {qs ps : List HL} (h : OwnR w base v qs) (hp : ps.Perm qs) (hr : HRow w' base v ps) (hg : w.grownBy w' v.ownBlock) : OwnR w' base v ps := by
  have hk : KeptT 3 w w' := KeptT.grown hg h.1.1 (by decide)
  refine ⟨hr, fun q hq => (h.2.1 q (hp.mem_iff.1 hq)).keptT hk, ?_⟩
  refine (hp.pairwise_iff ?_).2 h.2.2
  intro x y hxy g e1 e2
  exact hxy g e2 e1

theorem parrOwn (w : World) (base : Nat) (A : Option Addr) (n c : Nat) (words : List (List Int)) (h : OwnW w base (.slice A n c) words) (hr : ∀ x, x ∈ words → x.length ≤ 17592186044416) (hn : n ≤ 17592186044416) (hbase : base ≤ w.heap.size) (hnd : words.Nodup) :
    Calls Try.prog 49 #[.slice A n c, .func (.func 28) #[] #[]] w fun e w' => e = .returned (.tuple #[]) ∧ OwnW w' base (.slice A n c) (sw words) ∧ Below base w w' := by
  obtain ⟨qs, h, rfl⟩ := h
  refine (parrange 28 shlex totS entS ordS w base A n c qs hn h.1 (h.off fun q hq => hr _ (List.mem_map_of_mem hq))).mono ?_
  rintro e w' ⟨rfl, ps, hp, hs, hrow, hg⟩
  refine ⟨rfl, ⟨ps, h.perm hp hrow hg, ?_⟩, (Below.refl _ _).grown hg hbase (fun k hk => (h.1.lt k hk).1)⟩
  have hpm := hp.map Prod.snd
  have hs2 : (ps.map Prod.snd).Pairwise fun x y => shlex x y ≤ 0 := List.pairwise_map.2 hs
  exact sw_eq (ascW_of (srt_asc totS hs2 (hpm.nodup_iff.2 hnd))) fun x => hpm.mem_iff

theorem preS_of {xss words : List (List Int)} {L : Nat} (h : Pfxs xss words L) : sw words = sw (preS xss) := sw_same fun x => (h.2.1 x).trans (preS_mem xss x).symm
theorem maxS_of {xss words : List (List Int)} (h : Maxs xss words) : sw words = sw (maxS xss) := sw_same fun x => (h.2.1 x).trans (maxS_mem xss x).symm
theorem mul_mid {n L B : Nat} (h : n * (L + 1) ≤ B) : n ≤ B := by have := Nat.mul_le_mul_left n (show 1 ≤ L + 1 by omega); omega

set_option maxHeartbeats 1000000 in
theorem pPrefixes (w : World) (A : Option Addr) (n c L : Nat) (xss : List (List Int)) (h : ListsC w A n xss) (hL : ∀ x, x ∈ xss → x.length ≤ L) (hn : n * (L + 1) ≤ 1759218604441) :
    Calls Try.prog 26 #[.slice A n c] w fun e w' => ∃ v, e = .returned v ∧ OwnW w' w.heap.size v (sw (preS xss)) ∧ Below w.heap.size w w' := by
  have XL := Lib.hid h.1
  have HL0 := Lib.hid h
  have HLL := Lib.hid hL
  have HN := Lib.hid hn
  clear h hL hn
  go_enter Try.func26, Try.ntmps26
  go_wp2_with fail
  refine (pprefixes w A n c L xss HL0.out HLL.out HN.out).mono ?_
  rintro e w1 ⟨A1, m, c1, words, rfl, hS, hP⟩
  have hwl : words.length ≤ 1759218604441 := by
    have h1 := hP.2.2
    have h2 := HN.out
    rw [XL.out] at h1
    omega
  obtain ⟨l1, b1⟩ := hS.lists (by omega)
  have hm : m ≤ 1759218604441 := by rw [← l1.1]; exact hwl
  have ND := Lib.hid hP.1
  have SW := Lib.hid (preS_of hP)
  have LEN := Lib.hid l1.len
  have L1 := Lib.hid l1
  have B1 := Lib.hid b1
  clear hS hP l1 b1 hwl
  go_wp2_with fail
  refine (pcopies w1 A1 m c1 words L1.out hm).mono ?_
  rintro e w2 ⟨v, rfl, h2, b2⟩
  obtain ⟨A2, c2, rfl⟩ := h2.form
  rw [L1.out.1] at h2 ⊢
  have H2 := Lib.hid h2
  have B2 := Lib.hid b2
  clear h2 b2
  go_wp2_with fail
  refine (parrOwn w2 w1.heap.size A2 m c2 words H2.out LEN.out (by omega) B2.out.size ND.out).mono ?_
  rintro e w3 ⟨rfl, h3, b3⟩
  have H3 := Lib.hid h3
  have B3 := Lib.hid b3
  clear h3 b3
  go_wp2
  go_ret
  exact ⟨_, rfl, by rw [← SW.out]; exact H3.out.lower B1.out.size, B1.out.trans ((B2.out.trans B3.out).mono B1.out.size)⟩

/-- The sum of the lengths of the first k words. -/
def symU (ws : List (List Int)) (k : Nat) : Nat := ((ws.take k).map List.length).sum
theorem symU_zero (ws : List (List Int)) : symU ws 0 = 0 := rfl
theorem symU_succ {ws : List (List Int)} {k : Nat} (h : k < ws.length) : symU ws (k + 1) = symU ws k + (ws.getD k []).length := by
  unfold symU
  rw [List.take_succ_eq_append_getElem h, List.map_append, List.sum_append, List.getD_eq_getElem?_getD, List.getElem?_eq_getElem h]
  simp
theorem symU_le {ws : List (List Int)} {L : Nat} (h : ∀ x, x ∈ ws → x.length ≤ L) (k : Nat) (hk : k ≤ ws.length) : symU ws k ≤ k * L := by
  induction k with
  | zero => simp [symU]
  | succ k ih =>
    rw [symU_succ (by omega)]
    have h1 := ih (by omega)
    have h2 := h (ws.getD k []) (by rw [List.getD_eq_getElem?_getD, List.getElem?_eq_getElem (show k < ws.length by omega)]; exact List.getElem_mem _)
    rw [Nat.succ_mul]; omega
/-- The number of symbols of the words. -/
def symS (ws : List (List Int)) : Nat := (ws.map List.length).sum
theorem symU_all (ws : List (List Int)) : symU ws ws.length = symS ws := by unfold symU symS; rw [List.take_length]
theorem perm_sum {l m : List Nat} (h : l.Perm m) : l.sum = m.sum := by
  induction h with
  | nil => rfl
  | cons x _ ih => simp [ih]
  | swap x y l => simp; omega
  | trans _ _ h1 h2 => exact h1.trans h2
theorem size_of {xss words : List (List Int)} (h : Maxs xss words) : words.length = (sw (maxS xss)).length ∧ symS words = symS (sw (maxS xss)) := by
  have hp : words.Perm (sw (maxS xss)) := by
    rw [← maxS_of h]
    exact perm_of h.1 (AscW.nodup (sw_asc words)) fun x => (sw_mem words x).symm
  exact ⟨hp.length_eq, perm_sum (hp.map List.length)⟩

end Go.Proofs.Ytedcdpmflcegbaa
end
