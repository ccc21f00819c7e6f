/- Lemmas of the proofs of this seat, of the parts Srtw, Prew, Maxw, Pfxw, Revi, Revw, Hasw, Keyw, Keys, Mapb, Prdp, Prdw, Prdx, Agrl, Samw. Conditions: none. -/
import Derived.Test.YtakhphhpjcpphaaGreatDoorMc
import Derived.Test.YtakhphhpjcpphaaGreatDoorMb
import Derived.Test.YtakhphhpjcpphaaGreatDoorMa
import Derived.RegionTactic
import Derived.ChangeAlike
import Derived.Shelf.Abstract
import Derived.Test.YtakhphhpjcpphaaGreatDoorShelfk
import Derived.Laws.BytesArg
import Derived.Maps.OwnSet
import Derived.Maps.Views
import Derived.Deep.AppendLies
import Derived.Deep.RegionLaw
import Derived.BigRegion
section
/- Sorted; slices of a word by its first symbols. -/
namespace Go.Proofs.YtakhphhpjcpphaaGreatDoor
open Go.RowKit Go.Shelf

theorem addr_add0 (a : Addr) : a.add 0 = a := by
  obtain ⟨b, o, s⟩ := a
  cases s with
  | none => rfl
  | some s => simp [Addr.add]
theorem run_slice_to (W : World) (B : Option Addr) (m d t : Nat) (h : t ≤ d) : (Instr.slice 23 (.slice B m d) none (some (.int .i64 t)) none).run Tryz.prog W = .ok (.slice B t d) W := by
  obtain ⟨i, hi, hz0, hz1, hz2⟩ := info_parts info3
  have e : Tryz.prog.elem 23 = 3 := by kernel_rfl
  rw [run_slice_h W 23 B m d (by rw [e]; exact Tryz.underlying23) .i64 t (by omega) (by omega), e]
  have hs : (sizeOf 3).run Tryz.prog W = .ok 1 W := by simp [sizeOf, typeInfo, hi, hz1]
  rw [hs]
  simp only [Result.andThen, sliced]
  cases B with
  | none => simp
  | some a => simp [addr_add0]

/-- What a row of different words leaves: the words, their headers, the list. -/
theorem Diff.open {o : List Int → List Int → Int} {w w' : World} {A : Option Addr} {m c : Nat} {xss : List (List Int)} (h : Diff o w A m c xss w') (hn : xss.length ≤ 17592186044416) :
    ∃ ps : List HL, Hds w' A m ps ∧ (∀ q, q ∈ ps → InAt w' w.heap.size q) ∧ ListsC w' A m (ps.map Prod.snd) ∧ Below w.heap.size w w' ∧ (ps.map Prod.snd).Pairwise (fun x y => o x y < 0) ∧ (∀ x, x ∈ ps.map Prod.snd ↔ x ∈ xss) ∧ m ≤ xss.length := by
  obtain ⟨qs, h1, h2, h3, h4, h5, h6⟩ := h
  have hl : qs.length = m := by obtain ⟨A', c', e⟩ := h1.form; cases e; rfl
  have hd := h1.hds (by omega)
  exact ⟨qs, hd, h2, hd.lists h2, h3, h4, h5, h6⟩

set_option maxHeartbeats 1000000 in
theorem psorted (w : World) (A : Option Addr) (n c : Nat) (xss : List (List Int)) (h : ListsC w A n xss) (hn : n ≤ 1759218604441) :
    Calls Tryz.prog 9 #[.slice A n c] w fun e w' => ∃ v, e = .returned v ∧ OwnW w' w.heap.size v (sw xss) ∧ Below w.heap.size w w' := by
  have XL := Lib.hid h.1
  have HL0 := Lib.hid h
  clear h
  go_enter Tryz.func9, Tryz.ntmps9
  go_wp2_with fail
  refine (pdifferent 26 shlex totS entS ordS w A n c xss HL0.out hn).mono ?_
  rintro e w1 ⟨A1, m, c1, rfl, hD⟩
  obtain ⟨ps, _, _, l1, b1, hasc, hmem, hm⟩ := hD.open (by rw [XL.out]; omega)
  have B1 := Lib.hid b1
  have E1 := Lib.hid (sw_eq (ascW_of hasc) hmem)
  have M := Lib.hid (show m ≤ 1759218604441 by rw [XL.out] at hm; omega)
  have L1 := Lib.hid l1
  clear hD hasc hmem hm b1 l1
  go_wp2_with fail
  refine (pcopies w1 A1 m c1 _ L1.out M.out).mono ?_
  rintro e w2 ⟨v, rfl, h2, b2⟩
  have H2 := Lib.hid h2
  have B2 := Lib.hid b2
  clear h2 b2
  go_wp2
  go_ret
  exact ⟨v, rfl, by rw [← E1.out]; exact H2.out.lower B1.out.size, B1.out.trans (B2.out.mono B1.out.size)⟩
end Go.Proofs.YtakhphhpjcpphaaGreatDoor
end

section
/- prefixes: the different prefixes of the words of a list, in memory that they share with it. -/
namespace Go.Proofs.YtakhphhpjcpphaaGreatDoor
open Go.RowKit Go.Shelf

theorem Ints.take {w : World} {A : Option Addr} {n t : Nat} {xs : List Int} (h : Ints w A n xs) (ht : t ≤ n) : Ints w A t (xs.take t) := by
  refine ⟨by rw [List.length_take, h.1]; omega, by have := h.2.1; omega, fun h0 => ?_⟩
  obtain ⟨b, off, e, hlt, hc⟩ := h.2.2 (by omega)
  refine ⟨b, off, e, hlt, fun j hj => ?_⟩
  rw [hc j (by omega)]
  simp [List.getD, hj]
theorem prU_len {ws : List (List Int)} {L : Nat} (h : ∀ x, x ∈ ws → x.length ≤ L) (i : Nat) (hi : i ≤ ws.length) : (prU ws i).length ≤ i * (L + 1) := by
  induction i with
  | zero => simp [prU]
  | succ i ih =>
    rw [prU, List.length_append, tks_len]
    have h1 := ih (by omega)
    have h2 := h (ws.getD i []) (by rw [List.getD_eq_getElem?_getD, List.getElem?_eq_getElem (show i < ws.length by omega)]; exact List.getElem_mem _)
    rw [Nat.succ_mul]; omega

/-- Shared rows: what prefixes and maximal return. -/
def Shr (w : World) (A : Option Addr) (m c : Nat) (words : List (List Int)) (w' : World) : Prop :=
  ∃ qs : List HL, HRow w' w.heap.size (.slice A m c) qs ∧ (∀ q, q ∈ qs → InAt w' w.heap.size q) ∧ Below w.heap.size w w' ∧ qs.map Prod.snd = words
/-- The prefixes, each once. -/
def Pfxs (xss words : List (List Int)) (L : Nat) : Prop := words.Nodup ∧ (∀ x, x ∈ words ↔ ∃ y, y ∈ xss ∧ x <+: y) ∧ words.length ≤ xss.length * (L + 1)

set_option maxHeartbeats 2000000 in
set_option maxRecDepth 100000 in
theorem pprefixes (w : World) (A : Option Addr) (n c L : Nat) (xss : List (List Int)) (h : ListsC w A n xss) (hL : ∀ x, x ∈ xss → x.length ≤ L) (hn : n * (L + 1) ≤ 1759218604441) :
    Calls Tryz.prog 31 #[.slice A n c] w fun e w' => ∃ A' m c' words, e = .returned (.slice A' m c') ∧ Shr w A' m c' words w' ∧ Pfxs xss words L := by
  have XL := Lib.hid h.1
  have HL0 := Lib.hid h
  have HLL := Lib.hid hL
  have hn1 : n ≤ 1759218604441 := by
    have := Nat.mul_le_mul_left n (show 1 ≤ L + 1 by omega)
    omega
  have HN := Lib.hid hn
  clear h hL hn
  go_enter Tryz.func31, Tryz.ntmps31
  go_wp2_with fail
  refine (pdifferent 40 lexi totL entL ordL w A n c xss HL0.out hn1).mono ?_
  rintro e w1 ⟨A1, m, c1, rfl, hD⟩
  obtain ⟨ps, hd, hin, l1, b1, hasc, hmem, hm⟩ := hD.open (by rw [XL.out]; omega)
  obtain ⟨ws, hws⟩ : ∃ ws, ws = ps.map Prod.snd := ⟨_, rfl⟩
  rw [← hws] at hasc hmem l1
  have WS := Lib.hid hws
  have HD := Lib.hid hd
  have HIN := Lib.hid hin
  have B1 := Lib.hid b1
  have ASC := Lib.hid (ascL_of hasc)
  have MEM := Lib.hid hmem
  have LW := Lib.hid (show ws.length = m by rw [hws, List.length_map]; exact hd.1)
  have hm2 := hd.2.1
  have ML := Lib.hid (show m ≤ xss.length from hm)
  have PL := Lib.hid (show ∀ i, i ≤ m → (prU ws i).length ≤ xss.length * (L + 1) from fun i hi => Nat.le_trans (prU_len (L := L) (fun x hx => HLL.out x ((hmem x).1 hx)) i (by rw [LW.out]; exact hi)) (Nat.mul_le_mul_right _ (Nat.le_trans hi hm)))
  clear hD hasc hmem hm b1 l1 hd hin hws
  go_wp2
  go_loopw [4, 13] (fun v i wr => ∃ (k : Nat) (fs : List HL), k ≤ m ∧ i = .int .i64 k ∧ HRow wr w1.heap.size v fs ∧ Hid (∀ f, f ∈ fs → InAt wr w.heap.size f) ∧ Hid (fs.map Prod.snd = prU ws k) ∧ Below w1.heap.size w1 wr) (fun _ i _ => m - (intOf i).toNat)
  case atStart => exact ⟨0, [], Nat.zero_le _, rfl, HRow.nil _ _, Lib.hid (fun f hf => absurd hf (by simp)), Lib.hid rfl, Below.refl _ _⟩
  case round =>
    obtain ⟨k, fs, hk, rfl, hrow, hfin, hfs, hbr⟩ := hrel
    by_cases hlt : k < m
    · obtain ⟨b, off, B, mm, d, rfl, _, hp, hcell, hmd, hI, hik⟩ := (HD.out.below hbr).in_at (fun p hp => (HIN.out p hp).below hbr) hlt
      rw [← WS.out] at hI hik
      have IK0 := hik
      have IK := Lib.hid (show InAt w1 w.heap.size (Value.slice B mm d, ws.getD k []) from by
        have := HIN.out _ (List.mem_of_getElem? hp)
        rw [← WS.out] at this
        exact this)
      have WKL := Lib.hid (show (ws.getD k []).length = mm from hI.1)
      have hmm := hI.2.1
      have HR := Lib.hid hrow
      have HB := Lib.hid hbr
      clear hp hik IK0
      by_cases hk0 : k = 0
      · obtain ⟨F, hF⟩ : ∃ F, F = pf ws k := ⟨_, rfl⟩
        have FP := Lib.hid hF
        have F0 : F = 0 := by rw [hF]; unfold pf; rw [if_pos hk0]
        have hd0 : decide (0 < k) = false := by simp; omega
        have hd1 : ¬ 0 < k := by omega
        have F1 := Lib.hid F0
        have HK0 := Lib.hid hk0
        clear hF hI hrow hbr hk0 F0
        go_wp2
        obtain ⟨wo, hwo⟩ : ∃ wo : World, wo = wr := ⟨_, rfl⟩
        rw [← hwo]
        have HBo := Lib.hid (show Below w1.heap.size w1 wo from by rw [hwo]; exact HB.out)
        have HRo := Lib.hid (show HRow wo w1.heap.size _ fs from by rw [hwo]; exact HR.out)
        have HFo := Lib.hid (show ∀ f, f ∈ fs → InAt wo w.heap.size f from by rw [hwo]; exact hfin.out)
        clear hwo hcell hd0
        go_loopw [4, 8] (fun u s wr => ∃ (t : Nat) (gs : List HL), F ≤ t ∧ t ≤ mm + 1 ∧ s = .int .i64 t ∧ HRow wr w1.heap.size u gs ∧ Hid (∀ f, f ∈ gs → InAt wr w.heap.size f) ∧ Hid (gs.map Prod.snd = prU ws k ++ tks (ws.getD k []) F t) ∧ Below w1.heap.size w1 wr) (fun _ s _ => mm + 1 - (intOf s).toNat)
        case atStart => exact ⟨F, fs, Nat.le_refl _, by rw [F1.out]; omega, by rw [F1.out]; rfl, HRo.out, HFo, Lib.hid (by rw [tks_none, List.append_nil]; exact hfs.out), HBo.out⟩
        case round =>
          obtain ⟨t, gs, hFt, htm, rfl, hrow2, hfin2, hgs, hbr2⟩ := hrel
          by_cases hlt2 : t ≤ mm
          · have hgl : gs.length = (prU ws k).length + (t - F) := by rw [← List.length_map (f := Prod.snd), hgs.out, List.length_append, tks_len]
            have hall := PL.out (k + 1) (by omega)
            rw [prU, List.length_append, tks_len, ← FP.out, WKL.out] at hall
            have hN := HN.out
            rw [XL.out] at hall
            obtain ⟨A2, c2, w3, hr, h3, hg3, hb3⟩ := run_append_head (B := B) (m := t) (d := d) hrow2 ((ws.getD k []).take t) hbr2.size (by omega)
            have hsl := fun W => run_slice_to W B mm d t (by omega)
            have hik := (IK.out.on ((hbr2.mono B1.out.size).trans (hb3.mono B1.out.size)))
            have H3 := Lib.hid h3
            have B3 := Lib.hid (hbr2.trans hb3)
            have F3 := Lib.hid (show ∀ f, f ∈ gs ++ [(Value.slice B t d, (ws.getD k []).take t)] → InAt w3 w.heap.size f from fun f hf => by
              rcases List.mem_append.1 hf with hf | hf
              · exact (hfin2.out f hf).on (hb3.mono B1.out.size)
              · rw [List.mem_singleton] at hf
                subst hf
                obtain ⟨B', m', d', e2, i2, c2', o2⟩ := hik
                cases e2
                exact ⟨B, t, d, rfl, i2.take hlt2, by omega, fun a ha h0 => o2 a ha (by omega)⟩)
            have GL := Lib.hid hgl
            generalize gs.length = gl at hr H3 hgl
            clear hall hN hrow2 hbr2 h3 hg3 hb3 hik hgl GL
            go_wp2_with (at_builtin; refine Lib.wpList_append_run _ rfl _ _ _ _ rfl _ _ rfl rfl _ _ hr ?_)
            go_roundw
            case rel => exact ⟨t + 1, _, by omega, by omega, by go_num, H3.out, F3, Lib.hid (by rw [List.map_append, hgs.out, tks_succ _ hFt, List.append_assoc]; rfl), B3.out⟩
            case measure => simp [intOf]; omega
          · obtain rfl : t = mm + 1 := by omega
            have H3 := Lib.hid hrow2
            have B3 := Lib.hid hbr2
            clear hrow2 hbr2
            go_wp2
            go_roundw
            case rel => exact ⟨k + 1, gs, by omega, by go_num, H3.out, hfin2, Lib.hid (by rw [hgs.out, prU, FP.out, WKL.out]), B3.out⟩
            case measure => simp [intOf]; omega
      · obtain ⟨kp, hkp⟩ : ∃ kp, kp = k - 1 := ⟨_, rfl⟩
        have kpm : kp < m := by omega
        obtain ⟨b', off', Bp, mp, dp, e', _, _, hcp, _, hIp, _⟩ := (HD.out.below hbr).in_at (fun p hp => (HIN.out p hp).below hbr) kpm
        cases e'
        rw [← WS.out] at hIp
        obtain ⟨F, hF⟩ : ∃ F, F = pf ws k := ⟨_, rfl⟩
        have FP := Lib.hid hF
        obtain ⟨C, hC⟩ : ∃ C, C = cmn (ws.getD kp []) (ws.getD k []) := ⟨_, rfl⟩
        have FC : F = C + 1 := by rw [hF, hC, hkp]; unfold pf; rw [if_neg hk0]
        have CM : C ≤ mm := by rw [hC, ← WKL.out]; exact cmn_le_right _ _
        have hd0 : decide ((0 : Int) < (k : Int)) = true := by simp; omega
        have W1 : IntKind.i64.wrap ((k : Int) - 1) = (kp : Int) := by rw [IntKind.wrap_i64]; omega
        have hcall := wcommon Bp B mp dp mm d _ _ wr hIp hI
        rw [← hC] at hcall
        have HC := Lib.hid hcall
        clear hF hI hIp hrow hbr hcall hC hkp
        go_wp2_with (go_at_call 47; refine HC.out.mono ?_; rintro e w' ⟨rfl, q, rfl⟩)
        clear W1
        obtain ⟨wo, hwo⟩ : ∃ wo : World, wo = wr.drewN q := ⟨_, rfl⟩
        rw [← hwo]
        have HBo := Lib.hid (show Below w1.heap.size w1 wo from by rw [hwo]; exact below_drewN HB.out q)
        have HRo := Lib.hid (show HRow wo w1.heap.size _ fs from by rw [hwo]; exact HR.out)
        have HFo := Lib.hid (show ∀ f, f ∈ fs → InAt wo w.heap.size f from by rw [hwo]; exact hfin.out)
        clear hwo hcell hcp hd0
        go_loopw [4, 8] (fun u s wr => ∃ (t : Nat) (gs : List HL), F ≤ t ∧ t ≤ mm + 1 ∧ s = .int .i64 t ∧ HRow wr w1.heap.size u gs ∧ Hid (∀ f, f ∈ gs → InAt wr w.heap.size f) ∧ Hid (gs.map Prod.snd = prU ws k ++ tks (ws.getD k []) F t) ∧ Below w1.heap.size w1 wr) (fun _ s _ => mm + 1 - (intOf s).toNat)
        case atStart => exact ⟨F, fs, Nat.le_refl _, by omega, by rw [FC]; rfl, HRo.out, HFo, Lib.hid (by rw [tks_none, List.append_nil]; exact hfs.out), HBo.out⟩
        case round =>
          obtain ⟨t, gs, hFt, htm, rfl, hrow2, hfin2, hgs, hbr2⟩ := hrel
          by_cases hlt2 : t ≤ mm
          · have hgl : gs.length = (prU ws k).length + (t - F) := by rw [← List.length_map (f := Prod.snd), hgs.out, List.length_append, tks_len]
            have hall := PL.out (k + 1) (by omega)
            rw [prU, List.length_append, tks_len, ← FP.out, WKL.out] at hall
            have hN := HN.out
            rw [XL.out] at hall
            obtain ⟨A2, c2, w3, hr, h3, hg3, hb3⟩ := run_append_head (B := B) (m := t) (d := d) hrow2 ((ws.getD k []).take t) hbr2.size (by omega)
            have hsl := fun W => run_slice_to W B mm d t (by omega)
            have hik := (IK.out.on ((hbr2.mono B1.out.size).trans (hb3.mono B1.out.size)))
            have H3 := Lib.hid h3
            have B3 := Lib.hid (hbr2.trans hb3)
            have F3 := Lib.hid (show ∀ f, f ∈ gs ++ [(Value.slice B t d, (ws.getD k []).take t)] → InAt w3 w.heap.size f from fun f hf => by
              rcases List.mem_append.1 hf with hf | hf
              · exact (hfin2.out f hf).on (hb3.mono B1.out.size)
              · rw [List.mem_singleton] at hf
                subst hf
                obtain ⟨B', m', d', e2, i2, c2', o2⟩ := hik
                cases e2
                exact ⟨B, t, d, rfl, i2.take hlt2, by omega, fun a ha h0 => o2 a ha (by omega)⟩)
            have GL := Lib.hid hgl
            generalize gs.length = gl at hr H3 hgl
            clear hall hN hrow2 hbr2 h3 hg3 hb3 hik hgl GL
            go_wp2_with (at_builtin; refine Lib.wpList_append_run _ rfl _ _ _ _ rfl _ _ rfl rfl _ _ hr ?_)
            go_roundw
            case rel => exact ⟨t + 1, _, by omega, by omega, by go_num, H3.out, F3, Lib.hid (by rw [List.map_append, hgs.out, tks_succ _ hFt, List.append_assoc]; rfl), B3.out⟩
            case measure => simp [intOf]; omega
          · obtain rfl : t = mm + 1 := by omega
            have H3 := Lib.hid hrow2
            have B3 := Lib.hid hbr2
            clear hrow2 hbr2
            go_wp2
            go_roundw
            case rel => exact ⟨k + 1, gs, by omega, by go_num, H3.out, hfin2, Lib.hid (by rw [hgs.out, prU, FP.out, WKL.out]), B3.out⟩
            case measure => simp [intOf]; omega
    · obtain rfl : k = m := by omega
      have H2 := Lib.hid hrow
      have hfl : fs.length = (prU ws k).length := by rw [← hfs.out, List.length_map]
      obtain ⟨A2, c2, rfl⟩ := hrow.form
      clear hrow
      have HB := Lib.hid hbr
      clear hbr
      generalize hz : fs.length = z at hfl H2 ⊢
      have FL := Lib.hid hfl
      have HZ := Lib.hid hz
      clear hfl hz
      go_wp2
      go_ret
      refine ⟨A2, z, c2, prU ws k, rfl, ⟨fs, H2.out.lower B1.out.size, hfin.out, B1.out.trans (HB.out.mono B1.out.size), hfs.out⟩, ?_, fun x => ?_, PL.out k (Nat.le_refl _)⟩
      · have := prU_nodup ASC.out k (by rw [LW.out]; exact Nat.le_refl _)
        exact this
      · have := prU_all (ws := ws) x
        rw [LW.out] at this
        rw [this]
        exact ⟨fun ⟨y, hy, hp⟩ => ⟨y, (MEM.out y).1 hy, hp⟩, fun ⟨y, hy, hp⟩ => ⟨y, (MEM.out y).2 hy, hp⟩⟩
end Go.Proofs.YtakhphhpjcpphaaGreatDoor
end

section
/- maximal: the different maximal words of a list, in memory that they share with it. -/
namespace Go.Proofs.YtakhphhpjcpphaaGreatDoor
open Go.RowKit Go.Shelf

/-- The maximal words, each once. -/
def Maxs (xss words : List (List Int)) : Prop := words.Nodup ∧ (∀ x, x ∈ words ↔ Mx xss x) ∧ words.length ≤ xss.length

set_option maxHeartbeats 2000000 in
set_option maxRecDepth 100000 in
theorem pmaximal (w : World) (A : Option Addr) (n c : Nat) (xss : List (List Int)) (h : ListsC w A n xss) (hn1 : n ≤ 1759218604441) :
    Calls Tryz.prog 22 #[.slice A n c] w fun e w' => ∃ A' m c' words, e = .returned (.slice A' m c') ∧ Shr w A' m c' words w' ∧ Maxs xss words := by
  have XL := Lib.hid h.1
  have HL0 := Lib.hid h
  clear h
  go_enter Tryz.func22, Tryz.ntmps22
  go_wp2_with fail
  refine (pdifferent 40 lexi totL entL ordL w A n c xss HL0.out hn1).mono ?_
  rintro e w1 ⟨A1, m, c1, rfl, hD⟩
  obtain ⟨ps, hd, hin, l1, b1, hasc, hmem, hm⟩ := hD.open (by rw [XL.out]; omega)
  obtain ⟨ws, hws⟩ : ∃ ws, ws = ps.map Prod.snd := ⟨_, rfl⟩
  rw [← hws] at hasc hmem l1
  have WS := Lib.hid hws
  have HD := Lib.hid hd
  have HIN := Lib.hid hin
  have B1 := Lib.hid b1
  have ASC := Lib.hid (ascL_of hasc)
  have MEM := Lib.hid hmem
  have LW := Lib.hid (show ws.length = m by rw [hws, List.length_map]; exact hd.1)
  have hm2 := hd.2.1
  have hm3 : m ≤ 1759218604441 := by rw [XL.out] at hm; omega
  have ML := Lib.hid (show m ≤ xss.length from hm)
  clear hD hasc hmem hm b1 l1 hd hin hws
  go_wp2
  go_loopw [4, 11] (fun v i wr => ∃ (k : Nat) (fs : List HL), k ≤ m ∧ i = .int .i64 k ∧ HRow wr w1.heap.size v fs ∧ Hid (∀ f, f ∈ fs → InAt wr w.heap.size f) ∧ Hid (fs.map Prod.snd = mxU ws k) ∧ Below w1.heap.size w1 wr) (fun _ i _ => m - (intOf i).toNat)
  case atStart => exact ⟨0, [], Nat.zero_le _, rfl, HRow.nil _ _, Lib.hid (fun f hf => absurd hf (by simp)), Lib.hid rfl, Below.refl _ _⟩
  case round =>
    obtain ⟨k, fs, hk, rfl, hrow, hfin, hfs, hbr⟩ := hrel
    by_cases hlt : k < m
    · obtain ⟨b, off, B, mm, d, rfl, _, hp, hcell, hmd, hI, hik⟩ := (HD.out.below hbr).in_at (fun p hp => (HIN.out p hp).below hbr) hlt
      rw [← WS.out] at hI
      have IK := Lib.hid (show InAt w1 w.heap.size (Value.slice B mm d, ws.getD k []) from by
        have := HIN.out _ (List.mem_of_getElem? hp)
        rw [← WS.out] at this
        exact this)
      have HR := Lib.hid hrow
      have HB := Lib.hid hbr
      have HI := Lib.hid hI
      clear hp hik hI hrow
      by_cases hk1 : k + 1 = m
      · have hd0 : ((k : Int) + 1 == (m : Int)) = true := by simp; omega
        have HK1 := Lib.hid hk1
        clear hk1 hbr
        obtain ⟨wo, hwo⟩ : ∃ wo : World, wo = wr := ⟨_, rfl⟩
        have HBo := Lib.hid (show Below w1.heap.size w1 wo from by rw [hwo]; exact HB.out)
        have HRo := Lib.hid (show HRow wo w1.heap.size _ fs from by rw [hwo]; exact HR.out)
        have FL := Lib.hid (show fs.length ≤ k from by
          have := congrArg List.length hfs.out
          rw [List.length_map] at this
          have h2 := (mxU_sub ws k).length_le
          rw [List.length_take] at h2
          omega)
        obtain ⟨A2, c2, w3, hr, h3, hg3, hb3⟩ := run_append_head (B := B) (m := mm) (d := d) HRo.out (ws.getD k []) HBo.out.size (by have := FL.out; have := hm3; omega)
        have H3 := Lib.hid h3
        have B3 := Lib.hid (HBo.out.trans hb3)
        have F3 := Lib.hid (show ∀ f, f ∈ fs ++ [(Value.slice B mm d, ws.getD k [])] → InAt w3 w.heap.size f from fun f hf => by
          rcases List.mem_append.1 hf with hf | hf
          · have := (hfin.out f hf).on (w' := wo) (by rw [hwo]; exact Below.refl _ _)
            exact this.on (hb3.mono B1.out.size)
          · rw [List.mem_singleton] at hf
            subst hf
            exact IK.out.on ((HBo.out.trans hb3).mono B1.out.size))
        generalize fs.length = gl at hr H3
        rw [hwo] at hr
        clear h3 hg3 hb3 hwo
        go_wp2_with (at_builtin; refine Lib.wpList_append_run _ rfl _ _ _ _ rfl _ _ rfl rfl _ _ hr ?_)
        go_roundw
        case rel => exact ⟨k + 1, _, by omega, by go_num, H3.out, F3, Lib.hid (by rw [List.map_append, hfs.out, mxU, if_pos (.inl (by rw [LW.out]; exact HK1.out))]; rfl), B3.out⟩
        case measure => simp [intOf]; omega
      · have hk2 : k + 1 < m := by omega
        obtain ⟨b', off', Bp, mp, dp, e', _, _, hcp, _, hIp, _⟩ := (HD.out.below hbr).in_at (fun p hp => (HIN.out p hp).below hbr) hk2
        cases e'
        rw [← WS.out] at hIp
        have hd0 : ((k : Int) + 1 == (m : Int)) = false := by simp; omega
        have hcp' : wr.cell? ⟨b, off + (k + 1), none⟩ = some (.slice Bp mp dp) := hcp
        have hcall := whasprefix Bp B mp dp mm d _ _ wr hIp HI.out
        have N1 : ¬ (k + 1 = ws.length) := by rw [LW.out]; exact hk1
        have HN1 := Lib.hid N1
        clear hcp hIp hbr hk1 N1
        by_cases hpre : cmn (ws.getD (k + 1) []) (ws.getD k []) = (ws.getD k []).length
        · have HP := Lib.hid hpre
          rw [show decide (cmn (ws.getD (k + 1) []) (ws.getD k []) = (ws.getD k []).length) = true from decide_eq_true hpre] at hcall
          have HC := Lib.hid hcall
          clear hpre hcall
          go_wp2_with (go_at_call 41; refine HC.out.mono ?_; rintro e w' ⟨rfl, q, rfl⟩)
          go_roundw
          case rel => exact ⟨k + 1, fs, by omega, by go_num, HR.out, hfin, Lib.hid (by
            rw [hfs.out, mxU, if_neg]
            rintro (e | e)
            · exact HN1.out e
            · exact e HP.out), below_drewN HB.out q⟩
          case measure => simp [intOf]; omega
        · have HP := Lib.hid hpre
          rw [show decide (cmn (ws.getD (k + 1) []) (ws.getD k []) = (ws.getD k []).length) = false from decide_eq_false hpre] at hcall
          have HC := Lib.hid hcall
          clear hpre hcall
          go_wp2_with fail
          refine HC.out.mono ?_
          rintro e w' ⟨rfl, q, rfl⟩
          obtain ⟨wo, hwo⟩ : ∃ wo : World, wo = wr.drewN q := ⟨_, rfl⟩
          have HBo := Lib.hid (show Below w1.heap.size w1 wo from by rw [hwo]; exact below_drewN HB.out q)
          have HRo := Lib.hid (show HRow wo w1.heap.size _ fs from by rw [hwo]; exact HR.out)
          have FL := Lib.hid (show fs.length ≤ k from by
            have := congrArg List.length hfs.out
            rw [List.length_map] at this
            have h2 := (mxU_sub ws k).length_le
            rw [List.length_take] at h2
            omega)
          obtain ⟨A2, c2, w3, hr, h3, hg3, hb3⟩ := run_append_head (B := B) (m := mm) (d := d) HRo.out (ws.getD k []) HBo.out.size (by have := FL.out; have := hm3; omega)
          have H3 := Lib.hid h3
          have B3 := Lib.hid (HBo.out.trans hb3)
          have F3 := Lib.hid (show ∀ f, f ∈ fs ++ [(Value.slice B mm d, ws.getD k [])] → InAt w3 w.heap.size f from fun f hf => by
            rcases List.mem_append.1 hf with hf | hf
            · have := (hfin.out f hf).on (w' := wo) (by rw [hwo]; exact below_drewN (Below.refl _ _) q)
              exact this.on (hb3.mono B1.out.size)
            · rw [List.mem_singleton] at hf
              subst hf
              exact IK.out.on ((HBo.out.trans hb3).mono B1.out.size))
          generalize fs.length = gl at hr H3
          rw [hwo] at hr
          clear h3 hg3 hb3 hwo
          go_wp2_with (at_builtin; refine Lib.wpList_append_run _ rfl _ _ _ _ rfl _ _ rfl rfl _ _ hr ?_)
          go_roundw
          case rel => exact ⟨k + 1, _, by omega, by go_num, H3.out, F3, Lib.hid (by rw [List.map_append, hfs.out, mxU, if_pos (.inr HP.out)]; rfl), B3.out⟩
          case measure => simp [intOf]; omega
    · obtain rfl : k = m := by omega
      have H2 := Lib.hid hrow
      have hfl : fs.length = (mxU ws k).length := by rw [← hfs.out, List.length_map]
      obtain ⟨A2, c2, rfl⟩ := hrow.form
      clear hrow
      have HB := Lib.hid hbr
      clear hbr
      generalize hz : fs.length = z at hfl H2 ⊢
      have FL := Lib.hid hfl
      have HZ := Lib.hid hz
      clear hfl hz
      go_wp2
      go_ret
      refine ⟨A2, z, c2, mxU ws k, rfl, ⟨fs, H2.out.lower B1.out.size, hfin.out, B1.out.trans (HB.out.mono B1.out.size), hfs.out⟩, ?_, fun x => ?_, ?_⟩
      · have := mxU_nodup ASC.out
        rw [LW.out] at this
        exact this
      · have := mxU_mem ASC.out x
        rw [LW.out] at this
        exact this.trans (Mx.same MEM.out x)
      · have h2 := (mxU_sub ws k).length_le
        rw [List.length_take, LW.out] at h2
        have := ML.out
        omega
end Go.Proofs.YtakhphhpjcpphaaGreatDoor
end

section
/- Prefixes, Maximal, Size, Union. -/
namespace Go.Proofs.YtakhphhpjcpphaaGreatDoor
open Go.RowKit Go.Shelf

theorem Shr.lists {w w' : World} {A : Option Addr} {m c : Nat} {words : List (List Int)} (h : Shr w A m c words w') (hn : words.length ≤ 17592186044416) : ListsC w' A m words ∧ Below w.heap.size w w' := by
  obtain ⟨qs, h1, h2, h3, rfl⟩ := h
  exact ⟨(h1.hds (by simpa using hn)).lists h2, h3⟩
theorem OwnR.perm {w w' : World} {base : Nat} {v : Value} {qs ps : List HL} (h : OwnR w base v qs) (hp : ps.Perm qs) (hr : HRow w' base v ps) (hg : w.grownBy w' v.ownBlock) : OwnR w' base v ps := by
  have hk : KeptT 3 w w' := KeptT.grown hg h.1.1 (by decide)
  refine ⟨hr, fun q hq => (h.2.1 q (hp.mem_iff.1 hq)).keptT hk, ?_⟩
  refine (hp.pairwise_iff ?_).2 h.2.2
  intro x y hxy g e1 e2
  exact hxy g e2 e1

theorem parrOwn (w : World) (base : Nat) (A : Option Addr) (n c : Nat) (words : List (List Int)) (h : OwnW w base (.slice A n c) words) (hr : ∀ x, x ∈ words → x.length ≤ 17592186044416) (hn : n ≤ 17592186044416) (hbase : base ≤ w.heap.size) (hnd : words.Nodup) :
    Calls Tryz.prog 32 #[.slice A n c, .func (.func 26) #[] #[]] w fun e w' => e = .returned (.tuple #[]) ∧ OwnW w' base (.slice A n c) (sw words) ∧ Below base w w' := by
  obtain ⟨qs, h, rfl⟩ := h
  refine (parrange 26 shlex totS entS ordS w base A n c qs hn h.1 (h.off fun q hq => hr _ (List.mem_map_of_mem hq))).mono ?_
  rintro e w' ⟨rfl, ps, hp, hs, hrow, hg⟩
  refine ⟨rfl, ⟨ps, h.perm hp hrow hg, ?_⟩, (Below.refl _ _).grown hg hbase (fun k hk => (h.1.lt k hk).1)⟩
  have hpm := hp.map Prod.snd
  have hs2 : (ps.map Prod.snd).Pairwise fun x y => shlex x y ≤ 0 := List.pairwise_map.2 hs
  exact sw_eq (ascW_of (srt_asc totS hs2 (hpm.nodup_iff.2 hnd))) fun x => hpm.mem_iff

theorem preS_of {xss words : List (List Int)} {L : Nat} (h : Pfxs xss words L) : sw words = sw (preS xss) := sw_same fun x => (h.2.1 x).trans (preS_mem xss x).symm
theorem maxS_of {xss words : List (List Int)} (h : Maxs xss words) : sw words = sw (maxS xss) := sw_same fun x => (h.2.1 x).trans (maxS_mem xss x).symm
theorem mul_mid {n L B : Nat} (h : n * (L + 1) ≤ B) : n ≤ B := by have := Nat.mul_le_mul_left n (show 1 ≤ L + 1 by omega); omega

set_option maxHeartbeats 1000000 in
theorem pPrefixes (w : World) (A : Option Addr) (n c L : Nat) (xss : List (List Int)) (h : ListsC w A n xss) (hL : ∀ x, x ∈ xss → x.length ≤ L) (hn : n * (L + 1) ≤ 1759218604441) :
    Calls Tryz.prog 13 #[.slice A n c] w fun e w' => ∃ v, e = .returned v ∧ OwnW w' w.heap.size v (sw (preS xss)) ∧ Below w.heap.size w w' := by
  have XL := Lib.hid h.1
  have HL0 := Lib.hid h
  have HLL := Lib.hid hL
  have HN := Lib.hid hn
  clear h hL hn
  go_enter Tryz.func13, Tryz.ntmps13
  go_wp2_with fail
  refine (pprefixes w A n c L xss HL0.out HLL.out HN.out).mono ?_
  rintro e w1 ⟨A1, m, c1, words, rfl, hS, hP⟩
  have hwl : words.length ≤ 1759218604441 := by
    have h1 := hP.2.2
    have h2 := HN.out
    rw [XL.out] at h1
    omega
  obtain ⟨l1, b1⟩ := hS.lists (by omega)
  have hm : m ≤ 1759218604441 := by rw [← l1.1]; exact hwl
  have ND := Lib.hid hP.1
  have SW := Lib.hid (preS_of hP)
  have LEN := Lib.hid l1.len
  have L1 := Lib.hid l1
  have B1 := Lib.hid b1
  clear hS hP l1 b1 hwl
  go_wp2_with fail
  refine (pcopies w1 A1 m c1 words L1.out hm).mono ?_
  rintro e w2 ⟨v, rfl, h2, b2⟩
  obtain ⟨A2, c2, rfl⟩ := h2.form
  rw [L1.out.1] at h2 ⊢
  have H2 := Lib.hid h2
  have B2 := Lib.hid b2
  clear h2 b2
  go_wp2_with fail
  refine (parrOwn w2 w1.heap.size A2 m c2 words H2.out LEN.out (by omega) B2.out.size ND.out).mono ?_
  rintro e w3 ⟨rfl, h3, b3⟩
  have H3 := Lib.hid h3
  have B3 := Lib.hid b3
  clear h3 b3
  go_wp2
  go_ret
  exact ⟨_, rfl, by rw [← SW.out]; exact H3.out.lower B1.out.size, B1.out.trans ((B2.out.trans B3.out).mono B1.out.size)⟩

set_option maxHeartbeats 1000000 in
theorem pMaximal (w : World) (A : Option Addr) (n c : Nat) (xss : List (List Int)) (h : ListsC w A n xss) (hn : n ≤ 1759218604441) :
    Calls Tryz.prog 17 #[.slice A n c] w fun e w' => ∃ v, e = .returned v ∧ OwnW w' w.heap.size v (sw (maxS xss)) ∧ Below w.heap.size w w' := by
  have XL := Lib.hid h.1
  have HL0 := Lib.hid h
  clear h
  go_enter Tryz.func17, Tryz.ntmps17
  go_wp2_with fail
  refine (pmaximal w A n c xss HL0.out hn).mono ?_
  rintro e w1 ⟨A1, m, c1, words, rfl, hS, hP⟩
  have hwl : words.length ≤ 1759218604441 := by have := hP.2.2; rw [XL.out] at this; omega
  obtain ⟨l1, b1⟩ := hS.lists (by omega)
  have hm : m ≤ 1759218604441 := by rw [← l1.1]; exact hwl
  have SW := Lib.hid (maxS_of hP)
  have L1 := Lib.hid l1
  have B1 := Lib.hid b1
  clear hS hP l1 b1 hwl
  go_wp2_with fail
  refine (psorted w1 A1 m c1 words L1.out hm).mono ?_
  rintro e w2 ⟨v, rfl, h2, b2⟩
  have H2 := Lib.hid h2
  have B2 := Lib.hid b2
  clear h2 b2
  go_wp2
  go_ret
  exact ⟨v, rfl, by rw [← SW.out]; exact H2.out.lower B1.out.size, B1.out.trans (B2.out.mono B1.out.size)⟩

/-- The sum of the lengths of the first k words. -/
def symU (ws : List (List Int)) (k : Nat) : Nat := ((ws.take k).map List.length).sum
theorem symU_zero (ws : List (List Int)) : symU ws 0 = 0 := rfl
theorem symU_succ {ws : List (List Int)} {k : Nat} (h : k < ws.length) : symU ws (k + 1) = symU ws k + (ws.getD k []).length := by
  unfold symU
  rw [List.take_succ_eq_append_getElem h, List.map_append, List.sum_append, List.getD_eq_getElem?_getD, List.getElem?_eq_getElem h]
  simp
theorem symU_le {ws : List (List Int)} {L : Nat} (h : ∀ x, x ∈ ws → x.length ≤ L) (k : Nat) (hk : k ≤ ws.length) : symU ws k ≤ k * L := by
  induction k with
  | zero => simp [symU]
  | succ k ih =>
    rw [symU_succ (by omega)]
    have h1 := ih (by omega)
    have h2 := h (ws.getD k []) (by rw [List.getD_eq_getElem?_getD, List.getElem?_eq_getElem (show k < ws.length by omega)]; exact List.getElem_mem _)
    rw [Nat.succ_mul]; omega
/-- The number of symbols of the words. -/
def symS (ws : List (List Int)) : Nat := (ws.map List.length).sum
theorem symU_all (ws : List (List Int)) : symU ws ws.length = symS ws := by unfold symU symS; rw [List.take_length]
theorem perm_sum {l m : List Nat} (h : l.Perm m) : l.sum = m.sum := by
  induction h with
  | nil => rfl
  | cons x _ ih => simp [ih]
  | swap x y l => simp; omega
  | trans _ _ h1 h2 => exact h1.trans h2
theorem size_of {xss words : List (List Int)} (h : Maxs xss words) : words.length = (sw (maxS xss)).length ∧ symS words = symS (sw (maxS xss)) := by
  have hp : words.Perm (sw (maxS xss)) := by
    rw [← maxS_of h]
    exact perm_of h.1 (AscW.nodup (sw_asc words)) fun x => (sw_mem words x).symm
  exact ⟨hp.length_eq, perm_sum (hp.map List.length)⟩

set_option maxHeartbeats 1000000 in
theorem pSize (w : World) (A : Option Addr) (n c L : Nat) (xss : List (List Int)) (h : ListsC w A n xss) (hL : ∀ x, x ∈ xss → x.length ≤ L) (hn : n * (L + 1) ≤ 1759218604441) :
    Calls Tryz.prog 6 #[.slice A n c] w fun e w' => e = .returned (.tuple #[.int .i64 (sw (maxS xss)).length, .int .i64 (symS (sw (maxS xss)))]) ∧ Below w.heap.size w w' := by
  have XL := Lib.hid h.1
  have HL0 := Lib.hid h
  have hn1 := mul_mid hn
  have HLL := Lib.hid hL
  have HN := Lib.hid hn
  clear h hL hn
  go_enter Tryz.func6, Tryz.ntmps6
  go_wp2_with fail
  refine (pmaximal w A n c xss HL0.out hn1).mono ?_
  rintro e w1 ⟨A1, m, c1, words, rfl, hS, hP⟩
  have hwl : words.length ≤ 1759218604441 := by have := hP.2.2; rw [XL.out] at this; omega
  obtain ⟨l1, b1⟩ := hS.lists (by omega)
  have hml := l1.1
  have hm : m ≤ 1759218604441 := by rw [← hml]; exact hwl
  have SZ := Lib.hid (size_of hP)
  have SB := Lib.hid (show ∀ k, k ≤ m → symU words k ≤ 1759218604441 from fun k hk => by
    have h1 := symU_le (L := L) (fun x hx => HLL.out x ((hP.2.1 x).1 hx).1) k (by rw [hml]; exact hk)
    have h2 := hP.2.2
    have h3 := Nat.mul_le_mul_right L (Nat.le_trans (hml ▸ hk : k ≤ words.length) h2)
    have h4 := HN.out
    rw [XL.out] at h3
    rw [Nat.mul_succ] at h4
    omega)
  have L1 := Lib.hid l1
  have B1 := Lib.hid b1
  have ML := Lib.hid hml
  clear hS hP l1 b1 hwl hml
  go_wp2
  go_loop [5, 12] (fun s i => ∃ k : Nat, k ≤ m ∧ i = .int .i64 k ∧ s = .int .i64 (symU words k)) (fun _ i => m - (intOf i).toNat)
  case atStart => exact ⟨0, Nat.zero_le _, rfl, rfl⟩
  case round =>
    obtain ⟨k, hk, rfl, rfl⟩ := hrel
    by_cases hlt : k < m
    · obtain ⟨b, off, Aj, nj, cj, rfl, _, hcell, _, hI⟩ := L1.out.at_ hlt
      have hs : symU words (k + 1) = symU words k + nj := by rw [symU_succ (by rw [ML.out]; exact hlt), hI.1]
      have h1 := SB.out (k + 1) (by omega)
      obtain ⟨a, ha⟩ : ∃ a, a = symU words k := ⟨_, rfl⟩
      obtain ⟨z, hz⟩ : ∃ z, z = symU words (k + 1) := ⟨_, rfl⟩
      rw [← ha] at hs ⊢
      rw [← hz] at hs h1
      have HZ := Lib.hid hz
      have u1 : ((a : Int) + (nj : Int)) = (z : Int) := by omega
      clear hI hz hs ha
      go_wp2
      go_round
      case rel => exact ⟨k + 1, by omega, by go_num, by rw [HZ.out]⟩
      case measure => simp [intOf]; omega
    · obtain rfl : k = m := by omega
      have e1 := Lib.hid (show symU words k = symS (sw (maxS xss)) by rw [← SZ.out.2, ← symU_all, ML.out])
      have e2 := Lib.hid (show (sw (maxS xss)).length = k by rw [← SZ.out.1, ML.out])
      rw [e1.out]
      go_wp2
      go_ret2
      exact ⟨by rw [e2.out]; rfl, B1.out⟩
end Go.Proofs.YtakhphhpjcpphaaGreatDoor
end

section
/- slices.Reverse of an owned row. -/
namespace Go.Proofs.YtakhphhpjcpphaaGreatDoor
open Go.RowKit

/-- The list when t numbers from each end have been exchanged. -/
def rv (xs : List Int) (t : Nat) : List Int := (List.range xs.length).map fun m => if m < t ∨ xs.length ≤ m + t then xs.getD (xs.length - 1 - m) 0 else xs.getD m 0

theorem rv_len (xs : List Int) (t : Nat) : (rv xs t).length = xs.length := by unfold rv; simp
theorem rv_get (xs : List Int) (t m : Nat) (h : m < xs.length) : (rv xs t)[m]? = some (if m < t ∨ xs.length ≤ m + t then xs.getD (xs.length - 1 - m) 0 else xs.getD m 0) := by
  unfold rv; simp [h]
theorem rv_zero (xs : List Int) : rv xs 0 = xs := by
  apply List.ext_getElem?
  intro m
  rcases Nat.lt_or_ge m xs.length with h | h
  · rw [rv_get xs 0 m h, if_neg (by omega)]; simp [List.getD, h]
  · rw [List.getElem?_eq_none (by rw [rv_len]; exact h), List.getElem?_eq_none h]
theorem rv_end (xs : List Int) (t : Nat) (ht : xs.length ≤ 2 * t + 1) : rv xs t = xs.reverse := by
  apply List.ext_getElem?
  intro m
  rcases Nat.lt_or_ge m xs.length with h | h
  · rw [rv_get xs t m h, List.getElem?_reverse h]
    have h1 : xs.length - 1 - m < xs.length := by omega
    by_cases hc : m < t ∨ xs.length ≤ m + t
    · rw [if_pos hc]; simp [List.getD, h1]
    · rw [if_neg hc]
      have : xs.length - 1 - m = m := by omega
      rw [this]; simp [List.getD, h]
  · rw [List.getElem?_eq_none (by rw [rv_len]; exact h), List.getElem?_eq_none (by simpa using h)]
theorem rv_lo (xs : List Int) (t : Nat) (h : 2 * t + 1 < xs.length) : (rv xs t).getD t 0 = xs[t]?.getD 0 := by
  rw [List.getD, rv_get xs t t (by omega), if_neg (by omega)]; simp
theorem rv_hi (xs : List Int) (t : Nat) (h : 2 * t + 1 < xs.length) : (rv xs t).getD (xs.length - 1 - t) 0 = xs[xs.length - 1 - t]?.getD 0 := by
  rw [List.getD, rv_get xs t _ (by omega), if_neg (by omega)]; simp
theorem rv_step (xs : List Int) (t : Nat) (h : 2 * t + 1 < xs.length) : ((rv xs t).set t (xs[xs.length - 1 - t]?.getD 0)).set (xs.length - 1 - t) (xs[t]?.getD 0) = rv xs (t + 1) := by
  apply List.ext_getElem?
  intro m
  rcases Nat.lt_or_ge m xs.length with hm | hm
  · rw [rv_get xs (t + 1) m hm, List.getElem?_set, List.getElem?_set, rv_get xs t m hm]
    simp only [List.length_set, rv_len]
    by_cases h1 : xs.length - 1 - t = m
    · rw [if_pos h1, if_pos (by omega), if_pos (by omega)]
      have : xs.length - 1 - m = t := by omega
      rw [this]; simp
    · rw [if_neg h1]
      by_cases h2 : t = m
      · rw [if_pos h2, if_pos (by omega), if_pos (by omega), h2]; simp
      · rw [if_neg h2]
        by_cases h3 : m < t ∨ xs.length ≤ m + t
        · rw [if_pos h3, if_pos (by omega)]
        · rw [if_neg h3, if_neg (by omega)]
  · rw [List.getElem?_eq_none (by simpa [rv_len] using hm), List.getElem?_eq_none (by rw [rv_len]; exact hm)]

set_option maxHeartbeats 1000000 in
theorem reverse (A : Option Addr) (n c base : Nat) (xs : List Int) (w : World) (hm : n ≤ 17592186044416) (h : Owned w base (.slice A n c) xs) :
    Calls Tryz.prog 50 #[.slice A n c] w fun e w' => e = .returned (.tuple #[]) ∧ Owned w' base (.slice A n c) xs.reverse ∧ Below base w w' := by
  have hn : xs.length = n := by obtain ⟨A', c', e⟩ := h.form; cases e; rfl
  have L := Lib.hid hn
  rw [← rv_zero xs] at h
  clear hn
  go_enter Tryz.func50, Tryz.ntmps50
  go_wp2
  go_loopw [2, 3] (fun i j wr => ∃ (t : Nat) (jj : Int), (2 * t ≤ n + 1) ∧ i = .int .i64 t ∧ jj = (n : Int) - 1 - t ∧ j = .int .i64 jj ∧ Owned wr base (.slice A n c) (rv xs t) ∧ Below base w wr) (fun i _ _ => n - (intOf i).toNat)
  case atStart => exact ⟨0, _, by omega, rfl, by simp, rfl, h, Below.refl _ _⟩
  case round =>
    clear h
    obtain ⟨t, jj, ht, rfl, hjj, rfl, hown, hbr⟩ := hrel
    by_cases hlt : 2 * t + 1 < n
    · obtain ⟨q, hq⟩ : ∃ q : Nat, q = n - 1 - t := ⟨_, rfl⟩
      obtain rfl : jj = (q : Int) := by omega
      have hqn : q < n := by omega
      have htq : t < q := by omega
      have htn : t < n := by omega
      obtain ⟨g, hA, hg1, hg2, hfr⟩ := hown.head (by omega)
      subst hA
      have hI := hown.ints (by rw [rv_len, L.out]; exact hm)
      obtain ⟨g', o', e, _, hc1⟩ := hI.at_ (k := t) (by omega)
      cases e
      obtain ⟨g', o', e, _, hc2⟩ := hI.at_ (k := q) (by omega)
      cases e
      have hst := (hown.stored t (xs[q]?.getD 0)).stored q (xs[t]?.getD 0)
      have hstep := rv_step xs t (by rw [L.out]; exact hlt)
      have h1 := rv_lo xs t (by rw [L.out]; exact hlt)
      have h2 := rv_hi xs t (by rw [L.out]; exact hlt)
      rw [L.out, ← hq] at hstep h2
      rw [h1, Nat.zero_add] at hc1
      rw [h2, Nat.zero_add] at hc2
      rw [hstep] at hst
      have HST := Lib.hid hst
      have HQ := Lib.hid hq
      have f1 := hfr t
      have f2 := hfr q
      clear hstep h1 h2 hI hfr hst hq hjj hown
      go_wp2
      go_region
      go_wp2
      go_roundw
      case rel => exact ⟨t + 1, _, by omega, by go_num, by have := HQ.out; omega, rfl, HST.out, ((hbr.setCell (by exact hg1) _).setCell (by exact hg1) _).drew⟩
      case measure => simp [intOf]; omega
    · have hend := Lib.hid (rv_end xs t (by rw [L.out]; omega))
      have hge : jj ≤ (t : Int) := by omega
      clear hjj
      go_wp2
      go_end0
      exact ⟨rfl, by rw [← hend.out]; exact hown, hbr⟩
end Go.Proofs.YtakhphhpjcpphaaGreatDoor
end

section
/- slices.Reverse of a row of one's own, and that no other block turns; reversed; Suffixes. -/
namespace Go.Proofs.YtakhphhpjcpphaaGreatDoor
open Go.RowKit Go.Shelf

set_option maxHeartbeats 1000000 in
theorem reverseg (A : Option Addr) (n c base : Nat) (xs : List Int) (w : World) (hm : n ≤ 17592186044416) (h : Owned w base (.slice A n c) xs) :
    Calls Tryz.prog 50 #[.slice A n c] w fun e w' => e = .returned (.tuple #[]) ∧ Owned w' base (.slice A n c) xs.reverse ∧ w.grownBy w' (Value.ownBlock (.slice A n c)) := by
  have hn : xs.length = n := by obtain ⟨A', c', e⟩ := h.form; cases e; rfl
  have L := Lib.hid hn
  rw [← rv_zero xs] at h
  clear hn
  go_enter Tryz.func50, Tryz.ntmps50
  go_wp2
  go_loopw [2, 3] (fun i j wr => ∃ (t : Nat) (jj : Int), (2 * t ≤ n + 1) ∧ i = .int .i64 t ∧ jj = (n : Int) - 1 - t ∧ j = .int .i64 jj ∧ Owned wr base (.slice A n c) (rv xs t) ∧ w.grownBy wr (Value.ownBlock (.slice A n c))) (fun i _ _ => n - (intOf i).toNat)
  case atStart => exact ⟨0, _, by omega, rfl, by simp, rfl, h, World.grownBy.refl w _⟩
  case round =>
    clear h
    obtain ⟨t, jj, ht, rfl, hjj, rfl, hown, hbr⟩ := hrel
    by_cases hlt : 2 * t + 1 < n
    · obtain ⟨q, hq⟩ : ∃ q : Nat, q = n - 1 - t := ⟨_, rfl⟩
      obtain rfl : jj = (q : Int) := by omega
      have hqn : q < n := by omega
      have htq : t < q := by omega
      have htn : t < n := by omega
      obtain ⟨g, hA, hg1, hg2, hfr⟩ := hown.head (by omega)
      subst hA
      have hI := hown.ints (by rw [rv_len, L.out]; exact hm)
      obtain ⟨g', o', e, _, hc1⟩ := hI.at_ (k := t) (by omega)
      cases e
      obtain ⟨g', o', e, _, hc2⟩ := hI.at_ (k := q) (by omega)
      cases e
      have hst := (hown.stored t (xs[q]?.getD 0)).stored q (xs[t]?.getD 0)
      have hstep := rv_step xs t (by rw [L.out]; exact hlt)
      have h1 := rv_lo xs t (by rw [L.out]; exact hlt)
      have h2 := rv_hi xs t (by rw [L.out]; exact hlt)
      rw [L.out, ← hq] at hstep h2
      rw [h1, Nat.zero_add] at hc1
      rw [h2, Nat.zero_add] at hc2
      rw [hstep] at hst
      have HST := Lib.hid hst
      have HQ := Lib.hid hq
      have f1 := hfr t
      have f2 := hfr q
      have GR : ∀ u v : Value, w.grownBy wr (some g) → w.grownBy (((wr.setCell ⟨g, t, none⟩ u).setCell ⟨g, q, none⟩ v).drew) (some g) := fun u v hb => ⟨hb.os, hb.tape, hb.output, by simpa using hb.size, fun k hk hne => by
        show ((wr.setCell ⟨g, t, none⟩ u).setCell ⟨g, q, none⟩ v).heap[k]? = _
        rw [heap_setCell_other _ _ _ _ (by intro e; exact hne (by rw [e])), heap_setCell_other _ _ _ _ (by intro e; exact hne (by rw [e]))]
        exact hb.block k hk hne⟩
      clear hstep h1 h2 hI hfr hst hq hjj hown
      go_wp2
      go_region
      go_wp2
      go_roundw
      case rel => exact ⟨t + 1, _, by omega, by go_num, by have := HQ.out; omega, rfl, HST.out, GR _ _ hbr⟩
      case measure => simp [intOf]; omega
    · have hend := Lib.hid (rv_end xs t (by rw [L.out]; omega))
      have hge : jj ≤ (t : Int) := by omega
      clear hjj
      go_wp2
      go_end0
      exact ⟨rfl, by rw [← hend.out]; exact hown, hbr⟩

theorem set_fst {zs : List HL} {k : Nat} {v : Value} {xs ys : List Int} (h : zs[k]? = some (v, xs)) : (zs.set k (v, ys)).map Prod.fst = zs.map Prod.fst := by
  apply List.ext_getElem?
  intro i
  rw [List.getElem?_map, List.getElem?_map, List.getElem?_set]
  by_cases e : k = i
  · subst e
    have hk := (List.getElem?_eq_some_iff.1 h).1
    rw [if_pos rfl, if_pos hk, h]; rfl
  · rw [if_neg e]
theorem OwnR.third {w : World} {base : Nat} {v : Value} {qs : List HL} (h : OwnR w base v qs) : (qs.map Prod.fst).Pairwise fun p q : Value => ∀ g, p.ownBlock = some g → q.ownBlock ≠ some g := List.pairwise_map.2 h.2.2
/-- The word k of a row of one's own is written anew, in its own block. -/
theorem OwnR.turn {w w' : World} {base : Nat} {v u : Value} {qs : List HL} {k : Nat} {xs ys : List Int} (h : OwnR w base v qs) (hk : qs[k]? = some (u, xs)) (hy : Owned w' base u ys) (hg : w.grownBy w' u.ownBlock) : OwnR w' base v (qs.set k (u, ys)) := by
  have hu : Owned w base u xs := h.2.1 _ (List.mem_of_getElem? hk)
  have hne : v.ownBlock = none ∨ v.ownBlock ≠ u.ownBlock := by
    rcases h.1.1.2 with ⟨e, _⟩ | ⟨g', cap', cur', e, _, hg', _⟩
    · left; rw [e]; rfl
    · right
      rw [e]
      intro e2
      rcases hu.2 with ⟨e3, _⟩ | ⟨g, cap, cur, e3, _, hgg, _⟩
      · rw [e3] at e2; simp [Value.ownBlock] at e2
      · rw [e3] at e2
        have : g' = g := by simpa [Value.ownBlock] using e2
        subst this
        rw [hgg] at hg'
        injection hg' with hg'
        injection hg' with _ h2 _
        exact absurd h2 (by decide)
  have hf := set_fst (ys := ys) hk
  refine ⟨⟨?_, fun p hp => ?_⟩, fun q hq => ?_, ?_⟩
  · rw [List.length_set, hf]
    exact h.1.1.kept hg hne
  · rcases List.mem_or_eq_of_mem_set hp with hp | rfl
    · exact h.1.2 p hp
    · exact h.1.2 (u, xs) (List.mem_of_getElem? hk)
  · obtain ⟨j, hj⟩ := List.getElem?_of_mem hq
    rw [List.getElem?_set] at hj
    by_cases e : k = j
    · subst e
      rw [if_pos rfl, if_pos (List.getElem?_eq_some_iff.1 hk).1] at hj
      cases hj
      exact hy
    · rw [if_neg e] at hj
      have ho := h.2.1 q (List.mem_of_getElem? hj)
      refine ⟨ho.1, (World.ownsRow.kept ho hg ?_).2⟩
      by_cases hq0 : q.1.ownBlock = none
      · exact .inl hq0
      · right
        intro e2
        obtain ⟨g, hgq⟩ := Option.ne_none_iff_exists'.1 hq0
        have hp := h.2.2
        obtain ⟨hj1, hj2⟩ := List.getElem?_eq_some_iff.1 hj
        obtain ⟨hk1, hk2⟩ := List.getElem?_eq_some_iff.1 hk
        rcases Nat.lt_or_gt_of_ne e with hlt | hlt
        · have := List.pairwise_iff_getElem.1 hp k j hk1 hj1 hlt g
          rw [hk2, hj2] at this
          exact this (by rw [← e2]; exact hgq) hgq
        · have := List.pairwise_iff_getElem.1 hp j k hj1 hk1 hlt g
          rw [hk2, hj2] at this
          exact this hgq (by rw [← e2]; exact hgq)
  · have h3 := h.third
    rw [← hf] at h3
    exact List.pairwise_map.1 h3

/-- The first k words backwards. -/
def rvs (xss : List (List Int)) (k : Nat) : List (List Int) := (xss.take k).map List.reverse ++ xss.drop k
theorem rvs_zero (xss : List (List Int)) : rvs xss 0 = xss := by simp [rvs]
theorem rvs_all (xss : List (List Int)) : rvs xss xss.length = xss.map List.reverse := by simp [rvs]
theorem rvs_set {xss : List (List Int)} {k : Nat} (h : k < xss.length) : (rvs xss k).set k (xss.getD k []).reverse = rvs xss (k + 1) := by
  have e1 : xss.drop k = xss[k] :: xss.drop (k + 1) := List.drop_eq_getElem_cons h
  have hg : xss.getD k [] = xss[k] := by rw [List.getD_eq_getElem?_getD, List.getElem?_eq_getElem h]; rfl
  have hl : ((xss.take k).map List.reverse).length = k := by simp; omega
  unfold rvs
  rw [List.set_append_right _ _ (by omega), hl, Nat.sub_self, e1, List.set_cons_zero, List.take_succ_eq_append_getElem h, List.map_append, List.append_assoc, hg]
  rfl
theorem rvs_get {xss : List (List Int)} {k : Nat} (h : k < xss.length) : (rvs xss k)[k]? = some (xss.getD k []) := by
  unfold rvs
  rw [List.getElem?_append_right (by simp; omega), List.drop_eq_getElem_cons h, List.getD_eq_getElem?_getD, List.getElem?_eq_getElem h]
  simp [Nat.min_eq_left (Nat.le_of_lt h)]

set_option maxHeartbeats 1000000 in
set_option maxRecDepth 100000 in
theorem preversed (w : World) (A : Option Addr) (n c : Nat) (xss : List (List Int)) (h : ListsC w A n xss) (hn : n ≤ 1759218604441) :
    Calls Tryz.prog 33 #[.slice A n c] w fun e w' => ∃ v, e = .returned v ∧ OwnW w' w.heap.size v (xss.map List.reverse) ∧ Below w.heap.size w w' := by
  have XL := Lib.hid h.1
  have HL0 := Lib.hid h
  have LEN := Lib.hid h.len
  clear h
  go_enter Tryz.func33, Tryz.ntmps33
  go_wp2_with fail
  refine (pcopies w A n c xss HL0.out hn).mono ?_
  rintro e w1 ⟨v, rfl, h1, b1⟩
  obtain ⟨A1, c1, rfl⟩ := h1.form
  rw [XL.out] at h1 ⊢
  have H1 := Lib.hid h1
  have B1 := Lib.hid b1
  clear h1 b1
  go_wp2
  go_loopw [10] (fun i wr => ∃ (k : Nat) (zs : List HL), k ≤ n ∧ i = .int .i64 k ∧ OwnR wr w.heap.size (.slice A1 n c1) zs ∧ Hid (zs.map Prod.snd = rvs xss k) ∧ Below w.heap.size w wr) (fun i _ => n - (intOf i).toNat)
  case atStart =>
    obtain ⟨qs, h1, e1⟩ := H1.out
    exact ⟨0, qs, Nat.zero_le _, rfl, h1, Lib.hid (by rw [rvs_zero]; exact e1), B1.out⟩
  case round =>
    obtain ⟨k, zs, hk, rfl, hown, hzs, hbr⟩ := hrel
    by_cases hlt : k < n
    · have hkx : k < xss.length := by rw [XL.out]; exact hlt
      obtain ⟨p, hp⟩ : ∃ p, zs[k]? = some p := by
        have := congrArg List.length hzs.out
        rw [List.length_map] at this
        have h2 : (rvs xss k).length = xss.length := by simp [rvs]; omega
        exact ⟨_, List.getElem?_eq_getElem (by omega)⟩
      have hp2 : p.2 = xss.getD k [] := by
        have := congrArg (fun l => l[k]?) hzs.out
        simp only [List.getElem?_map, hp, rvs_get hkx] at this
        simpa using this
      obtain ⟨p1, p2⟩ := p
      simp only at hp2
      subst hp2
      have ho := hown.2.1 _ (List.mem_of_getElem? hp)
      obtain ⟨B, d, e1, _, _⟩ := ho.bounds
      simp only at e1
      subst e1
      have hml : (xss.getD k []).length ≤ 17592186044416 := LEN.out _ (by rw [List.getD_eq_getElem?_getD, List.getElem?_eq_getElem hkx]; exact List.getElem_mem _)
      have hrow := hown.1
      cases A1 with
      | none =>
        rcases hrow.1.2 with ⟨e2, h0⟩ | ⟨g, cap, cur, e2, _⟩
        · cases e2; omega
        · cases e2
      | some a =>
        obtain ⟨g, o, s⟩ := a
        have ha : o = 0 ∧ s = none := by
          rcases hrow.1.2 with ⟨e2, h0⟩ | ⟨g', cap, cur, e2, _⟩
          · cases e2
          · cases e2; exact ⟨rfl, rfl⟩
        obtain ⟨rfl, rfl⟩ := ha
        have hc := (hrow.cellOf hp).1
        simp only at hc ho
        have HO := Lib.hid hown
        have HP := Lib.hid hp
        have HB := Lib.hid hbr
        have HOW := Lib.hid ho
        generalize hm : (xss.getD k []).length = m at hc hml HO HP HOW
        have HM := Lib.hid hm
        clear hown hp hbr ho hrow hm
        go_wp2_with fail
        refine (reverseg B m d w.heap.size (xss.getD k []) wr hml HOW.out).mono ?_
        rintro e w2 ⟨rfl, h2, g2⟩
        have H2 := Lib.hid (HO.out.turn HP.out h2 g2)
        have B2 := Lib.hid (HB.out.trans ((Below.refl _ _).grown g2 HB.out.size (fun k hk => (World.ownsRow.lt HOW.out k hk).1)))
        clear h2 g2
        go_wp2
        go_roundw
        case rel => exact ⟨k + 1, _, by omega, by go_num, H2.out, Lib.hid (by
          rw [List.map_set, hzs.out]; exact rvs_set (by rw [XL.out]; exact hlt)), B2.out⟩
        case measure => simp [intOf]; omega
    · obtain rfl : k = n := by omega
      have HO := Lib.hid hown
      clear hown
      go_wp2
      go_ret
      exact ⟨_, rfl, ⟨zs, HO.out, by rw [hzs.out, ← XL.out, rvs_all]⟩, hbr⟩

theorem sufS_of {xss words : List (List Int)} {L : Nat} (h : Pfxs (xss.map List.reverse) words L) : sw (words.map List.reverse) = sw (sufS xss) := sw_same fun x => by
  rw [sufS_mem, List.mem_map]
  constructor
  · rintro ⟨y, hy, rfl⟩
    obtain ⟨z, hz, hp⟩ := (h.2.1 y).1 hy
    obtain ⟨u, hu, rfl⟩ := List.mem_map.1 hz
    refine ⟨u, hu, ?_⟩
    rw [← List.reverse_prefix, List.reverse_reverse]
    exact hp
  · rintro ⟨y, hy, hp⟩
    refine ⟨x.reverse, (h.2.1 _).2 ⟨y.reverse, List.mem_map_of_mem hy, List.reverse_prefix.2 hp⟩, List.reverse_reverse x⟩
theorem nodup_rev {words : List (List Int)} (h : words.Nodup) : (words.map List.reverse).Nodup := by
  refine List.pairwise_map.2 (h.imp fun {a b} hne e => hne ?_)
  rw [← List.reverse_reverse a, e, List.reverse_reverse]

set_option maxHeartbeats 1000000 in
theorem pSuffixes (w : World) (A : Option Addr) (n c L : Nat) (xss : List (List Int)) (h : ListsC w A n xss) (hL : ∀ x, x ∈ xss → x.length ≤ L) (hL2 : L ≤ 17592186044416) (hn : n * (L + 1) ≤ 1759218604441) :
    Calls Tryz.prog 15 #[.slice A n c] w fun e w' => ∃ v, e = .returned v ∧ OwnW w' w.heap.size v (sw (sufS xss)) ∧ Below w.heap.size w w' := by
  have XL := Lib.hid h.1
  have HL0 := Lib.hid h
  have hn1 := mul_mid hn
  have HLL := Lib.hid hL
  have HN := Lib.hid hn
  clear h hL hn
  go_enter Tryz.func15, Tryz.ntmps15
  go_wp2_with fail
  refine (preversed w A n c xss HL0.out hn1).mono ?_
  rintro e w1 ⟨v, rfl, h1, b1⟩
  have hrl : ∀ x, x ∈ xss.map List.reverse → x.length ≤ L := fun x hx => by
    obtain ⟨y, hy, rfl⟩ := List.mem_map.1 hx
    rw [List.length_reverse]; exact HLL.out y hy
  obtain ⟨A1, c1, rfl⟩ := h1.form
  have l1 := h1.lists (by rw [List.length_map, XL.out]; omega) (fun x hx => Nat.le_trans (hrl x hx) hL2)
  rw [List.length_map, XL.out] at l1 ⊢
  have L1 := Lib.hid l1
  have B1 := Lib.hid b1
  have RL := Lib.hid hrl
  clear h1 b1 l1 hrl
  go_wp2_with fail
  refine (pprefixes w1 A1 n c1 L _ L1.out RL.out HN.out).mono ?_
  rintro e w2 ⟨A2, m, c2, words, rfl, hS, hP⟩
  have hwl : words.length ≤ 1759218604441 := by
    have h1 := hP.2.2
    have h2 := HN.out
    rw [List.length_map, XL.out] at h1
    omega
  obtain ⟨l2, b2⟩ := hS.lists (by omega)
  have hm : m ≤ 1759218604441 := by rw [← l2.1]; exact hwl
  have ND := Lib.hid (nodup_rev hP.1)
  have SW := Lib.hid (sufS_of hP)
  have LEN := Lib.hid l2.len
  have L2 := Lib.hid l2
  have B2 := Lib.hid b2
  clear hS hP l2 b2 hwl
  go_wp2_with fail
  refine (preversed w2 A2 m c2 words L2.out hm).mono ?_
  rintro e w3 ⟨v, rfl, h3, b3⟩
  obtain ⟨A3, c3, rfl⟩ := h3.form
  rw [List.length_map, L2.out.1] at h3 ⊢
  have H3 := Lib.hid h3
  have B3 := Lib.hid b3
  clear h3 b3
  go_wp2_with fail
  refine (parrOwn w3 w2.heap.size A3 m c3 _ H3.out (fun x hx => by
    obtain ⟨y, hy, rfl⟩ := List.mem_map.1 hx
    rw [List.length_reverse]; exact LEN.out y hy) (by omega) B3.out.size ND.out).mono ?_
  rintro e w4 ⟨rfl, h4, b4⟩
  have H4 := Lib.hid h4
  have B4 := Lib.hid b4
  clear h4 b4
  go_wp2
  go_ret
  exact ⟨_, rfl, by rw [← SW.out]; exact H4.out.lower (Nat.le_trans B1.out.size B2.out.size), B1.out.trans ((B2.out.trans ((B3.out.trans B4.out).mono B2.out.size)).mono B1.out.size)⟩
end Go.Proofs.YtakhphhpjcpphaaGreatDoor
end

section
/- Has and Union. -/
namespace Go.Proofs.YtakhphhpjcpphaaGreatDoor
open Go.RowKit Go.Shelf

theorem entH : ∀ args w, (callFunc 29 args).run Tryz.prog w = .ok (.enter 29 args) w := enters_of Tryz.func29 (by kernel_rfl) rfl

/-- The closure of Has: is the word the captured one? -/
theorem phas1 (W : World) (A B : Option Addr) (n c m d Bw : Nat) (xs ys : List Int) (b : Bool) (hc : W.cell? ⟨Bw, 0, none⟩ = some (.slice B m d)) (hx : Ints W A n xs) (hy : Ints W B m ys) (hb : b = decide (xs = ys)) :
    Calls Tryz.prog 29 #[.slice A n c, .pointer (some ⟨Bw, 0, none⟩)] W fun e w' => e = .returned (.bool b) ∧ ∃ q, w' = W.drewN q := by
  have HB := Lib.hid hb
  clear hb
  go_enter Tryz.func29, Tryz.ntmps29
  go_wp2_with (go_at_call 30; refine (sequal A B n c m d xs ys b _ hx hy HB.out).mono ?_; rintro e w' ⟨rfl, q, rfl⟩)
  go_ret
  exact ⟨rfl, q, rfl⟩

theorem has_snoc {xss : List (List Int)} {k : Nat} {y : List Int} (h : k < xss.length) (hn : y ∉ xss.take k) (hne : xss.getD k [] ≠ y) : y ∉ xss.take (k + 1) := by
  rw [List.take_succ_eq_append_getElem h]
  intro hm
  rcases List.mem_append.1 hm with hm | hm
  · exact hn hm
  · rw [List.mem_singleton] at hm
    apply hne
    rw [hm, List.getD_eq_getElem?_getD, List.getElem?_eq_getElem h]; rfl

/-- Below no draws. -/
def OnlyDrew (w w' : World) : Prop := ∃ q, w' = w.drewN q

set_option maxHeartbeats 1000000 in
theorem pindex (W : World) (A B : Option Addr) (n c m d Bw : Nat) (xss : List (List Int)) (ys : List Int) (h : Lists W A n xss) (hc : W.cell? ⟨Bw, 0, none⟩ = some (.slice B m d)) (hy : Ints W B m ys) :
    Calls Tryz.prog 46 #[.slice A n c, .func (.func 29) #[] #[.pointer (some ⟨Bw, 0, none⟩)]] W fun e w' => ∃ i : Int, e = .returned (.int .i64 i) ∧ decide (0 ≤ i) = decide (ys ∈ xss) ∧ ∃ q, w' = W.drewN q := by
  have L := Lib.hid h.1
  have hn := h.2.1
  have HL0 := Lib.hid h
  have HC := Lib.hid hc
  have HY := Lib.hid hy
  have eH := entH
  clear h hc hy
  go_enter Tryz.func46, Tryz.ntmps46
  go_wp2
  go_loopw [8] (fun i wr => ∃ k : Nat, k ≤ n ∧ i = .int .i64 k ∧ Hid (ys ∉ xss.take k) ∧ OnlyDrew W wr) (fun i _ => n - (intOf i).toNat)
  case atStart => exact ⟨0, Nat.zero_le _, rfl, Lib.hid (by simp), 0, rfl⟩
  case round =>
    obtain ⟨k, hk, rfl, hno, q, rfl⟩ := hrel
    by_cases hlt : k < n
    · obtain ⟨b, off, Aj, nj, cj, rfl, _, hcell, hI⟩ := HL0.out.at_ hlt
      have HI := Lib.hid hI
      clear hI
      by_cases he : xss.getD k [] = ys
      · have hcall : Calls Tryz.prog 29 #[.slice Aj nj cj, .pointer (some ⟨Bw, 0, none⟩)] (W.drewN q) fun e w' => e = .returned (.bool true) ∧ ∃ m, w' = (W.drewN q).drewN m :=
          phas1 _ Aj B nj cj m d Bw _ ys true HC.out (HI.out.drewN q) (HY.out.drewN q) (by simp only [he, decide_true])
        have HCA := Lib.hid hcall
        have hmem : ys ∈ xss := by
          rw [← he, List.getD_eq_getElem?_getD, List.getElem?_eq_getElem (show k < xss.length by rw [L.out]; exact hlt)]
          exact List.getElem_mem _
        have HM := Lib.hid hmem
        clear hcall he hmem
        go_wp2_with (go_at_fn 29; refine HCA.out.mono ?_; rintro e w' ⟨rfl, q', rfl⟩)
        go_ret
        exact ⟨k, rfl, by rw [decide_eq_true HM.out, decide_eq_true (Int.natCast_nonneg k)], _, rfl⟩
      · have hcall : Calls Tryz.prog 29 #[.slice Aj nj cj, .pointer (some ⟨Bw, 0, none⟩)] (W.drewN q) fun e w' => e = .returned (.bool false) ∧ ∃ m, w' = (W.drewN q).drewN m :=
          phas1 _ Aj B nj cj m d Bw _ ys false HC.out (HI.out.drewN q) (HY.out.drewN q) (by rw [decide_eq_false he])
        have HCA := Lib.hid hcall
        have HN := Lib.hid (has_snoc (by rw [L.out]; exact hlt) hno.out he)
        clear hcall he
        go_wp2_with (go_at_fn 29; refine HCA.out.mono ?_; rintro e w' ⟨rfl, q', rfl⟩)
        go_roundw
        case rel => exact ⟨k + 1, by omega, by go_num, HN, _, rfl⟩
        case measure => simp [intOf]; omega
    · obtain rfl : k = n := by omega
      have HN := Lib.hid (show ys ∉ xss by have := hno.out; rw [← L.out, List.take_length] at this; exact this)
      go_wp2
      go_ret
      exact ⟨-1, rfl, by rw [decide_eq_false HN.out]; rfl, q, rfl⟩

set_option maxHeartbeats 1000000 in
theorem pHas (w : World) (A B : Option Addr) (n c m d : Nat) (xss : List (List Int)) (ys : List Int) (b : Bool) (h : Lists w A n xss) (hy : Ints w B m ys) (hb : b = decide (ys ∈ xss)) :
    Calls Tryz.prog 11 #[.slice A n c, .slice B m d] w fun e w' => e = .returned (.bool b) ∧ Below w.heap.size w w' := by
  have hbz := alloc_below w (.cells #[.slice B m d] 23)
  have hcell : (w.alloc (.cells #[.slice B m d] 23)).cell? ⟨w.heap.size, 0, none⟩ = some (.slice B m d) := by simp
  have hix := pindex (w.alloc (.cells #[.slice B m d] 23)) A B n c m d w.heap.size xss ys (h.below hbz) hcell (hy.below hbz)
  have hcf : Calls Tryz.prog 28 #[.slice A n c, .func (.func 29) #[] #[.pointer (some ⟨w.heap.size, 0, none⟩)]] (w.alloc (.cells #[.slice B m d] 23)) fun e w' => e = .returned (.bool b) ∧ ∃ q, w' = (w.alloc (.cells #[.slice B m d] 23)).drewN q := by
    rw [hb]
    generalize decide (ys ∈ xss) = b' at hix ⊢
    generalize w.alloc (.cells #[.slice B m d] 23) = W at hix ⊢
    have HIX := Lib.hid hix
    clear hix hcell hbz h hy hb
    go_enter Tryz.func28, Tryz.ntmps28
    go_wp2_with fail
    refine HIX.out.mono ?_
    rintro e w' ⟨i, rfl, hi, q, rfl⟩
    have HI := Lib.hid hi
    clear hi
    go_wp2
    go_ret
    exact ⟨by rw [← HI.out]; rfl, q, rfl⟩
  have HCF := Lib.hid hcf
  clear hcf hix hcell h hy hb
  have HBZ := Lib.hid hbz
  clear hbz
  go_enter Tryz.func11, Tryz.ntmps11
  go_wp2_with fail
  refine HCF.out.mono ?_
  rintro e w' ⟨rfl, q, rfl⟩
  go_wp2
  go_ret
  exact ⟨rfl, below_drewN HBZ.out q⟩

/-- The slice '.slice A n _' holds lists of lists, none longer than its capacity. -/
def Lists3 (w : World) (A : Option Addr) (n : Nat) (ls : List (List (List Int))) : Prop :=
  ls.length = n ∧ n ≤ 17592186044416 ∧ (0 < n → ∃ b off, A = some ⟨b, off, none⟩ ∧ b < w.heap.size ∧
    ∀ j, j < n → ∃ Aj nj cj, w.cell? ⟨b, off + j, none⟩ = some (.slice Aj nj cj) ∧ nj ≤ cj ∧ ListsC w Aj nj (ls.getD j []))
theorem Lists3.below {w w' : World} {A : Option Addr} {n : Nat} {ls : List (List (List Int))} (h : Lists3 w A n ls) (hb : Below w.heap.size w w') : Lists3 w' A n ls :=
  ⟨h.1, h.2.1, fun hn => by
    obtain ⟨b, off, e, hlt, hc⟩ := h.2.2 hn
    refine ⟨b, off, e, Nat.lt_of_lt_of_le hlt hb.size, fun j hj => ?_⟩
    obtain ⟨Aj, nj, cj, h1, h0, h2⟩ := hc j hj
    exact ⟨Aj, nj, cj, (hb.cell hlt).trans h1, h0, h2.below hb⟩⟩
theorem Lists3.at_ {w : World} {A : Option Addr} {n : Nat} {ls : List (List (List Int))} (h : Lists3 w A n ls) {k : Nat} (hk : k < n) :
    ∃ b off Aj nj cj, A = some ⟨b, off, none⟩ ∧ b < w.heap.size ∧ w.cell? ⟨b, off + k, none⟩ = some (.slice Aj nj cj) ∧ nj ≤ cj ∧ ListsC w Aj nj (ls.getD k []) := by
  obtain ⟨b, off, e, hlt, hc⟩ := h.2.2 (by omega)
  obtain ⟨Aj, nj, cj, h1, h0, h2⟩ := hc k hk
  exact ⟨b, off, Aj, nj, cj, e, hlt, h1, h0, h2⟩
theorem Lists3.rows {w : World} {A : Option Addr} {n : Nat} {ls : List (List (List Int))} (h : Lists3 w A n ls) : ∃ pss : List (List HL), pss.map (fun ps => ps.map Prod.snd) = ls ∧ Rows3 w A n pss ∧ ∀ ps, ps ∈ pss → ∀ p, p ∈ ps → InAt w w.heap.size p := by
  have hex : ∀ j, ∃ ps : List HL, j < n → ps.map Prod.snd = ls.getD j [] ∧ (∀ p, p ∈ ps → InAt w w.heap.size p) ∧ ∀ b off, A = some ⟨b, off, none⟩ → ∃ Aj nj cj, w.cell? ⟨b, off + j, none⟩ = some (.slice Aj nj cj) ∧ Hds w Aj nj ps := fun j => by
    by_cases hj : j < n
    · obtain ⟨b, off, Aj, nj, cj, e, _, hc, _, hl⟩ := h.at_ hj
      obtain ⟨ps, h1, h2, h3⟩ := hl.hds
      refine ⟨ps, fun _ => ⟨h1, h3, fun b' off' e' => ?_⟩⟩
      rw [e] at e'
      cases e'
      exact ⟨Aj, nj, cj, hc, h2⟩
    · exact ⟨[], fun h => absurd h hj⟩
  obtain ⟨f, hf⟩ : ∃ f : Nat → List HL, ∀ j, j < n → (f j).map Prod.snd = ls.getD j [] ∧ (∀ p, p ∈ f j → InAt w w.heap.size p) ∧ ∀ b off, A = some ⟨b, off, none⟩ → ∃ Aj nj cj, w.cell? ⟨b, off + j, none⟩ = some (.slice Aj nj cj) ∧ Hds w Aj nj (f j) :=
    ⟨fun j => Classical.choose (hex j), fun j => Classical.choose_spec (hex j)⟩
  refine ⟨(List.range n).map f, ?_, ⟨by simp, h.2.1, fun h0 => ?_⟩, fun ps hps => ?_⟩
  · apply List.ext_getElem
    · simp [h.1]
    · intro j h1 h2
      simp at h1
      have := (hf j h1).1
      simp [this, List.getD, List.getElem?_eq_getElem h2]
  · obtain ⟨b, off, e, hlt, _⟩ := h.2.2 h0
    refine ⟨b, off, e, hlt, fun j hj => ?_⟩
    have : ((List.range n).map f).getD j [] = f j := by simp [List.getD, hj]
    rw [this]
    exact (hf j hj).2.2 b off e
  · obtain ⟨j, hj, rfl⟩ := List.mem_map.1 hps
    exact (hf j (List.mem_range.1 hj)).2.1

theorem flat_snd (pss : List (List HL)) : pss.flatten.map Prod.snd = (pss.map (fun ps => ps.map Prod.snd)).flatten := by
  rw [List.map_flatten]
theorem flat_len (pss : List (List HL)) : pss.flatten.length = (pss.map (fun ps => ps.map Prod.snd)).flatten.length := by rw [← flat_snd, List.length_map]

set_option maxHeartbeats 1000000 in
theorem pUnion (w : World) (A : Option Addr) (n c : Nat) (ls : List (List (List Int))) (h : Lists3 w A n ls) (hn : ls.flatten.length ≤ 1759218604441) :
    Calls Tryz.prog 21 #[.slice A n c] w fun e w' => ∃ v, e = .returned v ∧ OwnW w' w.heap.size v (sw ls.flatten) ∧ Below w.heap.size w w' := by
  obtain ⟨pss, hps, hr, hin⟩ := h.rows
  have hfl : pss.flatten.length ≤ 1759218604441 := by rw [flat_len, hps]; exact hn
  have hsn : pss.flatten.map Prod.snd = ls.flatten := by rw [flat_snd, hps]
  have HSN := Lib.hid hsn
  have HR := Lib.hid hr
  have HIN := Lib.hid hin
  have HF := Lib.hid hfl
  clear h hps hr hin hn hfl hsn
  go_enter Tryz.func21, Tryz.ntmps21
  go_wp2_with fail
  refine (sconcath A n c pss w HR.out HF.out).mono ?_
  rintro e w1 ⟨A1, c1, rfl, h1, b1⟩
  have hf := HF.out
  obtain ⟨z, hz⟩ : ∃ z, z = pss.flatten.length := ⟨_, rfl⟩
  rw [← hz] at h1 hf ⊢
  have l1 := (h1.hds (by rw [← hz]; omega)).lists (top := w1.heap.size) (fun p hp => by
    obtain ⟨ps, hps, hp2⟩ := List.mem_flatten.1 hp
    exact ((HIN.out ps hps p hp2).below b1).mono b1.size)
  rw [HSN.out] at l1
  have L1 := Lib.hid l1
  have B1 := Lib.hid b1
  clear h1 b1 l1 hz
  go_wp2_with fail
  refine (psorted w1 A1 z c1 _ L1.out hf).mono ?_
  rintro e w2 ⟨v, rfl, h2, b2⟩
  have H2 := Lib.hid h2
  have B2 := Lib.hid b2
  clear h2 b2
  go_wp2
  go_ret
  exact ⟨v, rfl, H2.out.lower B1.out.size, B1.out.trans (B2.out.mono B1.out.size)⟩
end Go.Proofs.YtakhphhpjcpphaaGreatDoor
end

section
/- keys: the texts of words. -/
namespace Go.Proofs.YtakhphhpjcpphaaGreatDoor
open Go.RowKit Go.Shelf Go.Lib

/-- The numbers fit. -/
def In64 (xs : List Int) : Prop := ∀ x, x ∈ xs → -9223372036854775808 ≤ x ∧ x ≤ 9223372036854775807
/-- A string value of bytes. -/
def strv (bs : List UInt8) : Value := .string ⟨bs.toArray⟩
/-- The slice value v is a row of strings in a block from base on, which the call may write. -/
def SRow (w : World) (base : Nat) (v : Value) (ss : List (List UInt8)) : Prop := w.ownsRow base 9 1 v ss.length (ss.map strv)
theorem SRow.nil (w : World) (base : Nat) : SRow w base (.slice none 0 0) [] := World.ownsRow_nil _ _ _ _
theorem SRow.form {w : World} {base : Nat} {v : Value} {ss : List (List UInt8)} (h : SRow w base v ss) : ∃ A c, v = .slice A ss.length c := by
  rcases h.2 with ⟨rfl, h0⟩ | ⟨g, cap, cur, rfl, _⟩
  · exact ⟨none, 0, by rw [h0]⟩
  · exact ⟨_, _, rfl⟩
theorem row_kept {w w' : World} {base : Nat} {e : TypeId} {v : Value} {n : Nat} {xs : List Value} (h : w.ownsRow base e 1 v n xs) (hb : Below w.heap.size w w') : w'.ownsRow base e 1 v n xs := by
  refine ⟨h.1, ?_⟩
  rcases h.2 with e | ⟨g, cap, cur, hv, hbg, hg, r⟩
  · exact .inl e
  · exact .inr ⟨g, cap, cur, hv, hbg, (hb.block g (heap_lt hg)).trans hg, r⟩
theorem row_lower {w : World} {base base' : Nat} {e : TypeId} {v : Value} {n : Nat} {xs : List Value} (h : w.ownsRow base e 1 v n xs) (hb : base' ≤ base) : w.ownsRow base' e 1 v n xs := by
  refine ⟨h.1, ?_⟩
  rcases h.2 with e | ⟨g, cap, cur, hv, hbg, r⟩
  · exact .inl e
  · exact .inr ⟨g, cap, cur, hv, by omega, r⟩
theorem SRow.at_ {w : World} {base : Nat} {A : Option Addr} {n c : Nat} {ss : List (List UInt8)} (h : SRow w base (.slice A n c) ss) {k : Nat} (hk : k < ss.length) :
    ∃ g, A = some ⟨g, 0, none⟩ ∧ base ≤ g ∧ g < w.heap.size ∧ w.cell? ⟨g, k, none⟩ = some (strv (ss.getD k [])) := by
  have hn : n = ss.length := by obtain ⟨A', c', e⟩ := h.form; cases e; rfl
  subst hn
  rcases h.2 with ⟨e, h1⟩ | ⟨g, cap, cur, e, hb, hg, _⟩
  · injection e with e1 e2 e3; omega
  · cases e
    refine ⟨g, rfl, hb, heap_lt hg, ?_⟩
    rw [World.ownsRow.cellAt h k (by omega), List.getElem?_map, List.getElem?_eq_getElem hk, List.getD_eq_getElem?_getD, List.getElem?_eq_getElem hk]; rfl

theorem infob : (Tryz.prog.info? 5).map (fun i => (i.zero, i.size, i.bytes)) = some (some (.int .u8 0), 1, 1) := by kernel_rfl
theorem infos : (Tryz.prog.info? 9).map (fun i => (i.zero, i.size, i.bytes)) = some (some (.string ⟨#[]⟩), 1, 16) := by kernel_rfl

theorem run_append_v {w : World} {base t e bytes : Nat} {i : TypeInfo} {z : Value} (ht : Tryz.prog.underlying t = some (.slice e)) (hi : Tryz.prog.info? e = some i) (hz0 : i.zero = some z) (hz1 : i.size = 1) (hz2 : i.bytes = bytes) (hzc : z.cells.size = 1) (hby : bytes ≤ 16)
    {v : Value} {n : Nat} {xs : List Value} (h : w.ownsRow base e 1 v n xs) (x : Value) (h1 : x.oneCell' = true) (hbase : base ≤ w.heap.size) (hl : n < 8589934592000) :
    ∃ v' w', (Builtin.append_ #[t, t] t #[v, .slice (some ⟨w.heap.size, 0, none⟩) 1 1]).run Tryz.prog (w.alloc (.cells #[x] e)) = .ok v' w' ∧
      w'.ownsRow base e 1 v' (n + 1) (xs ++ [x]) ∧ Below base w w' := by
  have hbz := alloc_below w (.cells #[x] e)
  have ho1 : (w.alloc (.cells #[x] e)).ownsRow base e 1 v n xs := row_kept h hbz
  obtain ⟨v', w', hr, h3, h2, _⟩ := run_append_own (P := Tryz.prog) (w.alloc (.cells #[x] e)) base t t e i z 1 bytes ht hi hz0 hz1 hz2 hzc (by decide) v _ _ ho1 ⟨w.heap.size, 0, none⟩ 1 1 [x] (by simp)
    (by
      intro j u hu
      cases j with
      | zero =>
        simp at hu
        subst hu
        simp [Addr.add]
      | succ j => simp at hu)
    (by intro u hu; simp at hu; subst hu; exact h1) (by unfold maxLen; omega) (by have := Nat.mul_le_mul_left (n + 1) hby; omega) (Nat.le_trans hbase hbz.size)
  exact ⟨v', w', hr, h3, (hbz.mono hbase).trans ((Below.refl _ _).grown h2 (Nat.le_trans hbase hbz.size) (fun k hk => (World.ownsRow.lt ho1 k hk).1))⟩

theorem strOf_bytes (bs : List UInt8) : strOfNums (bs.map fun b => (b.toNat : Int)) = ⟨bs.toArray⟩ := by
  have h : (strOfNums (bs.map fun b => (b.toNat : Int))).data.toList = bs := by
    rw [strOfNums_data, List.map_map]
    conv => rhs; rw [← List.map_id bs]
    apply List.map_congr_left
    intro b _
    simp
  have h2 : (strOfNums (bs.map fun b => (b.toNat : Int))).data = bs.toArray := by
    have := congrArg List.toArray h
    rwa [Array.toArray_toList] at this
  exact congrArg ByteArray.mk h2

/-- A row of bytes as a string. -/
theorem run_conv_row {w : World} {base : Nat} {v : Value} {n : Nat} {bs : List UInt8} (h : w.ownsRow base 5 1 v n (Lib.byteCells bs)) : (convert 58 9 v).run Tryz.prog w = .ok (strv bs) w := by
  have hn : bs.length = n := by have := h.1; rw [Lib.byteCells_length] at this; omega
  rcases h.2 with ⟨rfl, h0⟩ | ⟨g, cap, cur, rfl, _, hg, _⟩
  · subst h0
    obtain rfl : bs = [] := List.eq_nil_of_length_eq_zero hn
    exact run_convert_bytes_nil w 58 5 Tryz.underlying58 Tryz.underlying5 0 0 9 Tryz.underlying9
  · have := run_convert_bytes_arg (P := Tryz.prog) w 58 5 Tryz.underlying58 Tryz.underlying5 g 0 n cap (bs.map fun b => (b.toNat : Int)) (by simp [hn]) (fun i hi => ?_) 9 Tryz.underlying9
    · rw [this, strOf_bytes]; rfl
    · rw [Nat.zero_add, World.ownsRow.cellAt h i (by omega)]
      unfold Lib.byteCells
      rw [List.getElem?_map, List.getElem?_eq_getElem (show i < bs.length by omega)]
      simp [List.getD, show i < bs.length by omega]

theorem tab_at {w wr : World} {name : String} {zs : List Int} (T : TabBelow Tryz.prog w.heap.size w name .u64 zs) (h : Below w.heap.size w wr) : TabBelow Tryz.prog wr.heap.size wr name .u64 zs := fun w' h' => T w' (h.trans (h'.mono h.size))

theorem appendInt (B n : Nat) (i : Int) (h0 : -9223372036854775808 ≤ i) (h1 : i ≤ 9223372036854775807) (sv : Value) (xs : List Value) (w : World) (hown : w.ownsRow B 5 1 sv n xs) (hBw : B ≤ w.heap.size) (hlim : n + 21 ≤ 140737488355328)
    (htab : TabBelow Tryz.prog B w "internal/strconv.uint64pow10" .u64 pow10Tab) :
    Calls Tryz.prog 51 #[sv, .int .i64 i, .int .i64 10] w fun e w' => ∃ v', e = .returned v' ∧ w'.ownsRow B 5 1 v' (n + (itoa i).length) (xs ++ Lib.byteCells (itoa i)) ∧ Below B w w' :=
  (Any.strconv_AppendInt_10 Tryz.laysM176 B n i h0 h1 sv xs w hown hBw hlim htab).mono fun _ _ ⟨v', e, h2, h3, _⟩ => ⟨v', e, h2, h3⟩
end Go.Proofs.YtakhphhpjcpphaaGreatDoor
end

section
/- keys and longest: their contracts. -/
namespace Go.Proofs.YtakhphhpjcpphaaGreatDoor
open Go.RowKit Go.Shelf Go.Lib

theorem bytes_snoc (a b : List UInt8) : Lib.byteCells (a ++ b) = Lib.byteCells a ++ Lib.byteCells b := by unfold Lib.byteCells; rw [List.map_append]
theorem ktake_succ {x : List Int} {j : Nat} (h : j < x.length) : kt (x.take (j + 1)) = kt (x.take j) ++ itoa (x.getD j 0) ++ [32] := by
  rw [List.take_succ_eq_append_getElem h, kt_snoc, List.append_assoc, List.getD_eq_getElem?_getD, List.getElem?_eq_getElem h]; rfl

set_option maxHeartbeats 2000000 in
set_option maxRecDepth 100000 in
theorem pkeys (w : World) (A : Option Addr) (n c : Nat) (xss : List (List Int)) (h : Lists w A n xss) (hL : ∀ x, x ∈ xss → x.length ≤ 68719476736) (hwf : ∀ x, x ∈ xss → In64 x) (hn : n ≤ 68719476736)
    (T : TabBelow Tryz.prog w.heap.size w "internal/strconv.uint64pow10" .u64 pow10Tab) :
    Calls Tryz.prog 36 #[.slice A n c] w fun e w' => ∃ v, e = .returned v ∧ SRow w' w.heap.size v (xss.map kt) ∧ Below w.heap.size w w' := by
  have XL := Lib.hid h.1
  have HL0 := Lib.hid h
  have HLL := Lib.hid hL
  have HW := Lib.hid hwf
  have TT := Lib.hid T
  obtain ⟨i0, hi, hz0, hz1, hz2⟩ := info_parts infob
  obtain ⟨i1, hs, hs0, hs1, hs2⟩ := info_parts infos
  have IB := Lib.hid (And.intro hi (And.intro hz0 (And.intro hz1 hz2)))
  have IS := Lib.hid (And.intro hs (And.intro hs0 (And.intro hs1 hs2)))
  clear h hL hwf T hi hz0 hz1 hz2 hs hs0 hs1 hs2
  go_enter Tryz.func36, Tryz.ntmps36
  go_wp2
  go_loopw [3, 11] (fun v i wr => ∃ k : Nat, k ≤ n ∧ i = .int .i64 k ∧ SRow wr w.heap.size v ((xss.take k).map kt) ∧ Below w.heap.size w wr) (fun _ i _ => n - (RowKit.intOf i).toNat)
  case atStart => exact ⟨0, Nat.zero_le _, rfl, by simpa using SRow.nil w w.heap.size, Below.refl _ _⟩
  case round =>
    obtain ⟨k, hk, rfl, hrow, hbr⟩ := hrel
    by_cases hlt : k < n
    · have hkx : k < xss.length := by rw [XL.out]; exact hlt
      have hxm : xss.getD k [] ∈ xss := by rw [List.getD_eq_getElem?_getD, List.getElem?_eq_getElem hkx]; exact List.getElem_mem _
      obtain ⟨b, off, B, mm, d, rfl, _, hcell, hI⟩ := (HL0.out.below hbr).at_ hlt
      obtain ⟨x, hx⟩ : ∃ x, x = xss.getD k [] := ⟨_, rfl⟩
      rw [← hx] at hI hxm
      have HX := Lib.hid hx
      have ML := Lib.hid (show x.length = mm from hI.1)
      have hmm : mm ≤ 68719476736 := by rw [← ML.out]; exact HLL.out x hxm
      have HWX := Lib.hid (HW.out x hxm)
      have HR := Lib.hid hrow
      have HB := Lib.hid hbr
      have HI := Lib.hid hI
      have TK := Lib.hid (tab_at TT.out hbr)
      have RL := Lib.hid (show ((xss.take k).map kt).length = k by rw [List.length_map, List.length_take]; omega)
      clear hrow hbr hI hx hxm
      go_wp2
      obtain ⟨wo, hwo⟩ : ∃ wo : World, wo = wr := ⟨_, rfl⟩
      rw [← hwo] at hcell HR HB HI TK ⊢
      clear hwo
      go_loopw [6, 17] (fun u s wr => ∃ t : Nat, t ≤ mm ∧ s = .int .i64 t ∧ wr.ownsRow wo.heap.size 5 1 u (kt (x.take t)).length (Lib.byteCells (kt (x.take t))) ∧ Below wo.heap.size wo wr) (fun _ s _ => mm - (RowKit.intOf s).toNat)
      case atStart => exact ⟨0, Nat.zero_le _, rfl, by rw [List.take_zero, kt_nil]; exact World.ownsRow_nil _ _ _ _, Below.refl _ _⟩
      case round =>
        obtain ⟨t, htm, rfl, hown, hbo⟩ := hrel
        by_cases hlt2 : t < mm
        · obtain ⟨b2, off2, rfl, _, hc2⟩ := (HI.out.below hbo).at_ hlt2
          have htx : t < x.length := by rw [ML.out]; exact hlt2
          have h64 := HWX.out (x.getD t 0) (by rw [List.getD_eq_getElem?_getD, List.getElem?_eq_getElem htx]; exact List.getElem_mem _)
          have hkl := kt_len (w := x.take t) (fun y hy => HWX.out y (List.mem_of_mem_take hy))
          have hlen : (kt (x.take t)).length ≤ 22 * t := by rw [List.length_take] at hkl; have := Nat.min_le_left t x.length; omega
          have hcall := appendInt wo.heap.size _ (x.getD t 0) h64.1 h64.2 _ _ wr hown hbo.size (by omega) (fun w' h' => TK.out w' (hbo.trans h'))
          have hil := itoa_length_le (x.getD t 0) h64.1 h64.2
          obtain ⟨L, hL⟩ : ∃ L, L = (kt (x.take t)).length + (itoa (x.getD t 0)).length := ⟨_, rfl⟩
          have hL2 : L < 8589934592000 := by omega
          rw [← hL] at hcall
          have LE := Lib.hid hL
          have KS := Lib.hid (ktake_succ htx)
          have HBO := Lib.hid hbo
          obtain ⟨z, hz⟩ : ∃ z, z = x.getD t 0 := ⟨_, rfl⟩
          have h640 : -9223372036854775808 ≤ z := by rw [hz]; exact h64.1
          have h641 : z ≤ 9223372036854775807 := by rw [hz]; exact h64.2
          rw [← hz] at hc2 hcall
          have HZ := Lib.hid hz
          have HC := Lib.hid hcall
          clear hown hbo hcall hkl hlen hil hL hz h64
          go_wp2_with fail
          refine HC.out.mono ?_
          rintro e w1 ⟨v1, rfl, o1, b1⟩
          obtain ⟨v2, w2, hr, o2, bb2⟩ := run_append_v Tryz.underlying58 IB.out.1 IB.out.2.1 IB.out.2.2.1 IB.out.2.2.2 rfl (by decide) o1 (.int .u8 32) rfl (Nat.le_trans HBO.out.size b1.size) hL2
          have O2 := Lib.hid o2
          have B2 := Lib.hid (HBO.out.trans (b1.trans bb2))
          clear o1 b1 o2 bb2
          go_wp2_with (at_builtin; refine Lib.wpList_append_run _ rfl _ _ _ _ rfl _ _ rfl rfl _ _ hr ?_)
          go_roundw
          case rel => exact ⟨t + 1, by omega, by go_num, by
            have := O2.out
            rw [HZ.out, LE.out] at this
            rw [KS.out, bytes_snoc, bytes_snoc, List.length_append, List.length_append]
            exact this, B2.out⟩
          case measure => simp [RowKit.intOf]; omega
        · obtain rfl : t = mm := by omega
          have htk : x.take t = x := by rw [← ML.out, List.take_length]
          rw [htk] at hown
          have hcv := run_conv_row hown
          have B1 := Lib.hid (HB.out.trans (hbo.mono HB.out.size))
          have R1 := row_kept HR.out hbo
          rw [RL.out] at R1
          obtain ⟨v2, w2, hr, o2, bb2⟩ := run_append_v Tryz.underlying45 IS.out.1 IS.out.2.1 IS.out.2.2.1 IS.out.2.2.2 (by decide) (by decide) R1 (strv (kt x)) rfl (Nat.le_trans HB.out.size hbo.size) (by omega)
          have O2 := Lib.hid o2
          have B2 := Lib.hid (B1.out.trans bb2)
          have SV : strv (kt x) = .string ⟨(kt x).toArray⟩ := rfl
          rw [SV] at hcv hr
          generalize (⟨(kt x).toArray⟩ : ByteArray) = sb at hcv hr
          clear hown hbo R1 o2 bb2 htk SV
          go_wp2_with (at_builtin; refine Lib.wpList_append_run _ rfl _ _ _ _ rfl _ _ rfl rfl _ _ hr ?_)
          go_roundw
          case rel => exact ⟨k + 1, by omega, by go_num, by
            have := O2.out
            unfold SRow
            rw [List.take_succ_eq_append_getElem (by rw [XL.out]; exact hlt), List.map_append, List.map_append, List.length_append, RL.out]
            have hxe : x = xss[k]'(by rw [XL.out]; exact hlt) := by rw [HX.out, List.getD_eq_getElem?_getD, List.getElem?_eq_getElem (by rw [XL.out]; exact hlt)]; rfl
            rw [hxe] at this
            exact this, B2.out⟩
          case measure => simp [RowKit.intOf]; omega
    · obtain rfl : k = n := by omega
      have HR := Lib.hid hrow
      clear hrow
      go_wp2
      go_ret
      exact ⟨_, rfl, by have := HR.out; rw [← XL.out, List.take_length] at this; exact this, hbr⟩

/-- The length of the longest word among the first k. -/
def lonU (ws : List (List Int)) : Nat → Nat
  | 0 => 0
  | k + 1 => max (lonU ws k) (ws.getD k []).length
def lonS (ws : List (List Int)) : Nat := lonU ws ws.length
theorem lonU_le {ws : List (List Int)} {L : Nat} (h : ∀ x, x ∈ ws → x.length ≤ L) (k : Nat) (hk : k ≤ ws.length) : lonU ws k ≤ L := by
  induction k with
  | zero => simp [lonU]
  | succ k ih =>
    rw [lonU]
    have h1 := ih (by omega)
    have h2 := h (ws.getD k []) (by rw [List.getD_eq_getElem?_getD, List.getElem?_eq_getElem (show k < ws.length by omega)]; exact List.getElem_mem _)
    omega
theorem lonU_ge {ws : List (List Int)} {k j : Nat} (h : j < k) : (ws.getD j []).length ≤ lonU ws k := by
  induction k with
  | zero => omega
  | succ k ih =>
    rw [lonU]
    by_cases e : j = k
    · subst e; omega
    · have := ih (by omega); omega
theorem lonU_at {ws : List (List Int)} (k : Nat) (h : 0 < lonU ws k) : ∃ j, j < k ∧ (ws.getD j []).length = lonU ws k := by
  induction k with
  | zero => simp [lonU] at h
  | succ k ih =>
    rw [lonU] at h ⊢
    by_cases e : lonU ws k ≤ (ws.getD k []).length
    · exact ⟨k, by omega, by omega⟩
    · obtain ⟨j, hj, e2⟩ := ih (by omega)
      exact ⟨j, by omega, by omega⟩
theorem lonS_ge {ws : List (List Int)} {x : List Int} (h : x ∈ ws) : x.length ≤ lonS ws := by
  obtain ⟨j, hj, rfl⟩ := List.getElem_of_mem h
  have := lonU_ge (ws := ws) (k := ws.length) hj
  rw [List.getD_eq_getElem?_getD, List.getElem?_eq_getElem hj] at this
  exact this
theorem lonS_le {ws : List (List Int)} {L : Nat} (h : ∀ x, x ∈ ws → x.length ≤ L) : lonS ws ≤ L := lonU_le h _ (Nat.le_refl _)
theorem lonS_same {l m : List (List Int)} (h : ∀ x, x ∈ l ↔ x ∈ m) : lonS l = lonS m :=
  Nat.le_antisymm (lonS_le fun _ hx => lonS_ge ((h _).1 hx)) (lonS_le fun _ hx => lonS_ge ((h _).2 hx))

set_option maxHeartbeats 1000000 in
theorem plongest (w : World) (A : Option Addr) (n c : Nat) (xss : List (List Int)) (h : Lists w A n xss) :
    Calls Tryz.prog 35 #[.slice A n c] w fun e w' => e = .returned (.int .i64 (lonS xss)) ∧ w = w' := by
  have XL := Lib.hid h.1
  have hn := h.2.1
  have HL0 := Lib.hid h
  clear h
  go_enter Tryz.func35, Tryz.ntmps35
  go_wp2
  go_loop [3, 8] (fun s i => ∃ k : Nat, k ≤ n ∧ i = .int .i64 k ∧ s = .int .i64 (lonU xss k)) (fun _ i => n - (RowKit.intOf i).toNat)
  case atStart => exact ⟨0, Nat.zero_le _, rfl, rfl⟩
  case round =>
    obtain ⟨k, hk, rfl, rfl⟩ := hrel
    by_cases hlt : k < n
    · obtain ⟨b, off, Aj, nj, cj, rfl, _, hcell, hI⟩ := HL0.out.at_ hlt
      have hs := Lib.hid (show (lonU xss (k + 1) : Int) = if lonU xss k ≤ nj then (nj : Int) else (lonU xss k : Int) by
        rw [lonU, hI.1]
        split <;> omega)
      obtain ⟨z, hz⟩ : ∃ z, z = lonU xss (k + 1) := ⟨_, rfl⟩
      have HZ := Lib.hid hz
      rw [← hz] at hs
      obtain ⟨a, ha⟩ : ∃ a, a = lonU xss k := ⟨_, rfl⟩
      rw [← ha] at hs ⊢
      clear hI hz ha
      by_cases hle : a ≤ nj
      · have e1 := Lib.hid (show (nj : Int) = (z : Int) by rw [hs.out, if_pos hle])
        go_wp2
        go_round
        case rel => exact ⟨k + 1, by omega, by go_num, by rw [← HZ.out, ← e1.out]; congr 1; omega⟩
        case measure => simp [RowKit.intOf]; omega
      · have e1 := Lib.hid (show (a : Int) = (z : Int) by rw [hs.out, if_neg hle])
        go_wp2
        go_round
        case rel => exact ⟨k + 1, by omega, by go_num, by rw [← HZ.out, ← e1.out]; congr 1; omega⟩
        case measure => simp [RowKit.intOf]; omega
    · obtain rfl : k = n := by omega
      have e1 := Lib.hid (show lonU xss k = lonS xss by unfold lonS; rw [XL.out])
      rw [e1.out]
      go_wp2
      go_ret
      exact ⟨rfl, rfl⟩
end Go.Proofs.YtakhphhpjcpphaaGreatDoor
end

section
/- A set of texts: a map[string]bool of the call's own. Cells that stay where only a map and new blocks turn. -/
namespace Go.Proofs.YtakhphhpjcpphaaGreatDoor
open Go.RowKit Go.Shelf
open Go.Maps (Keyed)

theorem plainElem_bool_inv {H : Type} {P : Program} {e : TypeId} (he : P.underlying e = some .bool) {v : Value} {b : Bool} {ps : List MemPlace} (h : plainElem (H := H) P e v = some (.lit (.bool b), ps)) : v = .bool b := by
  unfold plainElem at h
  rw [he] at h
  cases v <;> simp at h
  rw [h.1]
theorem strKeyed : Keyed Tryz.prog 9 := Go.Maps.string_keyed Tryz.underlying9
/-- Block b of w is a map that holds true for the texts S, and nothing else. -/
def SetIs (w : World) (b cnt : Nat) (S : List (List UInt8)) : Prop :=
  ∃ D : DataW Unit, w.ownsMap Tryz.prog 9 (plainElem Tryz.prog 4) b cnt D ∧ Go.Maps.IsMap D ∧ ∀ kl : List UInt8, D.atKey (.string kl) (.lit (.bool false)) = .lit (.bool (decide (kl ∈ S)))
theorem SetIs.made (w : World) : SetIs (w.alloc (.map #[] 0)) w.heap.size 0 [] := by
  have h := World.ownsMap_made (H := Unit) w Tryz.prog 9 (plainElem Tryz.prog 4)
  refine ⟨.map [], h, World.ownsMap.isMap h, fun kl => ?_⟩
  rw [WideAt.atKey_none _ (fun p hp => absurd hp (by simp))]
  simp
theorem SetIs.kept {w w' : World} {b cnt : Nat} {S : List (List UInt8)} {r : Option Nat} (h : SetIs w b cnt S) (hg : w.grownBy w' r) (hne : some b ≠ r) : SetIs w' b cnt S := by
  obtain ⟨D, h1, h2, h3⟩ := h
  exact ⟨D, h1.kept hg hne, h2, h3⟩
theorem SetIs.lt {w : World} {b cnt : Nat} {S : List (List UInt8)} (h : SetIs w b cnt S) : b < w.heap.size := by
  obtain ⟨D, h1, _⟩ := h
  exact h1.lt
theorem SetIs.look {w : World} {b cnt : Nat} {S : List (List UInt8)} (h : SetIs w b cnt S) (s : ByteArray) (hs : s.size ≤ maxLen) :
    (Instr.lookup 44 (.map (some b)) (.string s) false).run Tryz.prog w = .ok (.bool (decide (s.data.toList ∈ S))) w := by
  obtain ⟨D, h1, _, h3⟩ := h
  obtain ⟨v, ps, hrun, hv⟩ := h1.lookup strKeyed Tryz.underlying44 (z := .bool false) (Tryz.zeroValue4 w) (plainElem_bool Tryz.underlying4 false) (Go.WideMaps.keyOf_string_mk Tryz.underlying9 hs)
  rw [h3] at hv
  rw [hrun, plainElem_bool_inv Tryz.underlying4 hv]
theorem SetIs.put {w : World} {b cnt : Nat} {S : List (List UInt8)} (h : SetIs w b cnt S) (s : ByteArray) (hs : s.size ≤ maxLen) (hn : cnt < maxLen) :
    ∃ w', (Instr.mapUpdate 44 (.map (some b)) (.string s) (.bool true)).run Tryz.prog w = .ok () w' ∧ SetIs w' b (cnt + 1) (S ++ [s.data.toList]) ∧ w.grownBy w' (some b) := by
  obtain ⟨D, h1, h2, h3⟩ := h
  have hk := Go.WideMaps.keyOf_string_mk (P := Tryz.prog) Tryz.underlying9 hs
  obtain ⟨w', hrun, h4, h5⟩ := h1.update strKeyed Tryz.underlying44 hn hk (plainElem_bool (H := Unit) Tryz.underlying4 true)
  refine ⟨w', hrun, ⟨_, h4, World.ownsMap.isMap h4, fun kl => ?_⟩, h5⟩
  by_cases e : kl = s.data.toList
  · subst e
    rw [Go.Maps.atKey_put_same h2 (strKeyed.key hk)]
    simp
  · rw [Go.Maps.atKey_put_other (by simpa using e), h3]
    simp [e]
theorem SetIs.block {w : World} {b cnt : Nat} {S : List (List UInt8)} (h : SetIs w b cnt S) : ∃ es ck, w.heap[b]? = some (.map es ck) := by
  obtain ⟨D, ⟨es, ck, h1, _⟩, _⟩ := h
  exact ⟨es, ck, h1⟩

/-- What w holds at any cell w' holds too. -/
def Cells (w w' : World) : Prop := w.heap.size ≤ w'.heap.size ∧ ∀ b o v, w.cell? ⟨b, o, none⟩ = some v → w'.cell? ⟨b, o, none⟩ = some v
theorem Cells.refl (w : World) : Cells w w := ⟨Nat.le_refl _, fun _ _ _ h => h⟩
theorem Cells.trans {a b c : World} (h : Cells a b) (k : Cells b c) : Cells a c := ⟨Nat.le_trans h.1 k.1, fun b o v e => k.2 b o v (h.2 b o v e)⟩
theorem Cells.below {w w' : World} (h : Below w.heap.size w w') : Cells w w' := ⟨h.size, fun b o _ e => (h.cell (p := ⟨b, o, none⟩) (block_lt e)).trans e⟩
theorem Cells.map {w w' : World} {b cnt : Nat} {S : List (List UInt8)} (h : SetIs w b cnt S) (hg : w.grownBy w' (some b)) : Cells w w' := ⟨hg.size, fun g o _ e => by
  refine hg.cell (a := ⟨g, o, none⟩) e ?_
  intro e2
  injection e2 with e2
  have e2 : g = b := e2
  subst e2
  obtain ⟨es, ck, hb⟩ := h.block
  simp [World.cell?, hb] at e⟩
theorem Ints.cells {w w' : World} {A : Option Addr} {n : Nat} {xs : List Int} (h : Ints w A n xs) (hc : Cells w w') : Ints w' A n xs :=
  ⟨h.1, h.2.1, fun hn => by
    obtain ⟨b, off, e, hlt, h1⟩ := h.2.2 hn
    exact ⟨b, off, e, Nat.lt_of_lt_of_le hlt hc.1, fun j hj => hc.2 _ _ _ (h1 j hj)⟩⟩
theorem ListsC.cells {w w' : World} {A : Option Addr} {n : Nat} {xss : List (List Int)} (h : ListsC w A n xss) (hc : Cells w w') : ListsC w' A n xss :=
  ⟨h.1, h.2.1, fun hn => by
    obtain ⟨b, off, e, hlt, h1⟩ := h.2.2 hn
    refine ⟨b, off, e, Nat.lt_of_lt_of_le hlt hc.1, fun j hj => ?_⟩
    obtain ⟨Aj, nj, cj, h2, h3, h4⟩ := h1 j hj
    exact ⟨Aj, nj, cj, hc.2 _ _ _ h2, h3, h4.cells hc⟩⟩

/-- A list of two lists, as a literal makes it. -/
theorem Lists.two (w : World) (A B : Option Addr) (n c m d : Nat) (xs ys : List Int) (h : Ints w A n xs) (k : Ints w B m ys) :
    Lists (w.alloc (.cells #[.slice A n c, .slice B m d] 23)) (some ⟨w.heap.size, 0, none⟩) 2 [xs, ys] := by
  have hb := alloc_below w (.cells #[.slice A n c, .slice B m d] 23)
  refine ⟨rfl, by omega, fun _ => ⟨w.heap.size, 0, rfl, by simp, fun j hj => ?_⟩⟩
  have hc := cell_of_row (w.alloc (.cells #[.slice A n c, .slice B m d] 23)) w.heap.size j #[.slice A n c, .slice B m d] 23 (0, 0) (heap_alloc_new w _)
  rw [Nat.zero_add, hc]
  match j, hj with
  | 0, _ => exact ⟨A, n, c, rfl, h.below hb⟩
  | 1, _ => exact ⟨B, m, d, rfl, k.below hb⟩
/-- Join of two words. -/
theorem wjoin2 (A B : Option Addr) (n c m d : Nat) (xs ys : List Int) (w : World) (h : Ints w A n xs) (k : Ints w B m ys) (hl : n + m ≤ 17592186044416) :
    Calls Tryz.prog 37 #[.slice (some ⟨w.heap.size, 0, none⟩) 2 2] (w.alloc (.cells #[.slice A n c, .slice B m d] 23)) fun e w' => ∃ A' c', e = .returned (.slice A' (n + m) c') ∧ Owned w' w.heap.size (.slice A' (n + m) c') (xs ++ ys) ∧ Below w.heap.size w w' := by
  refine (wjoin _ _ _ [xs, ys] _ (Lists.two w A B n c m d xs ys h k) (by simp; rw [h.1, k.1]; exact hl)).mono ?_
  rintro e w' ⟨v, rfl, hv, hb⟩
  rw [show ([xs, ys] : List (List Int)).flatten = xs ++ ys by simp] at hv
  obtain ⟨A', c', e⟩ := hv.form
  rw [List.length_append, h.1, k.1] at e
  subst e
  exact ⟨A', c', rfl, hv.lower (by simp), (alloc_below w _).trans (hb.mono (by simp))⟩
end Go.Proofs.YtakhphhpjcpphaaGreatDoor
end

section
/- Products of sets of words: each joined word once, in the order in which it is met. No program. -/
namespace Go.Proofs.YtakhphhpjcpphaaGreatDoor

/-- Each word of a list once, in the order in which it is met first. -/
def dd (l : List (List Int)) : List (List Int) := l.foldl (fun acc x => if x ∈ acc then acc else acc ++ [x]) []
theorem dd_snoc (l : List (List Int)) (x : List Int) : dd (l ++ [x]) = if x ∈ dd l then dd l else dd l ++ [x] := by unfold dd; rw [List.foldl_append]; rfl
theorem dd_in {l : List (List Int)} {x : List Int} (h : x ∈ dd l) : dd (l ++ [x]) = dd l := by rw [dd_snoc, if_pos h]
theorem dd_out {l : List (List Int)} {x : List Int} (h : x ∉ dd l) : dd (l ++ [x]) = dd l ++ [x] := by rw [dd_snoc, if_neg h]
theorem list_snoc_ind {P : List (List Int) → Prop} (h0 : P []) (h1 : ∀ l x, P l → P (l ++ [x])) (l : List (List Int)) : P l := by
  rw [← List.reverse_reverse l]
  induction l.reverse with
  | nil => exact h0
  | cons x r ih => rw [List.reverse_cons]; exact h1 _ _ ih
theorem dd_mem (l : List (List Int)) (x : List Int) : x ∈ dd l ↔ x ∈ l := by
  refine list_snoc_ind (P := fun l => x ∈ dd l ↔ x ∈ l) (by simp [dd]) (fun l y ih => ?_) l
  by_cases h : y ∈ dd l
  · rw [dd_in h, ih, List.mem_append, List.mem_singleton]
    refine ⟨.inl, fun k => k.elim id fun e => ?_⟩
    subst e; exact ih.1 h
  · rw [dd_out h, List.mem_append, List.mem_append, ih]
theorem dd_nodup (l : List (List Int)) : (dd l).Nodup := by
  refine list_snoc_ind (P := fun l => (dd l).Nodup) (by simp [dd]) (fun l y ih => ?_) l
  by_cases h : y ∈ dd l
  · rw [dd_in h]; exact ih
  · rw [dd_out h]
    refine List.nodup_append.2 ⟨ih, by simp, fun a ha b hb e => ?_⟩
    rw [List.mem_singleton] at hb
    subst hb; subst e; exact h ha
theorem dd_len (l : List (List Int)) : (dd l).length = (sw l).length := (perm_of (dd_nodup l) (AscW.nodup (sw_asc l)) fun x => (dd_mem l x).trans (sw_mem l x).symm).length_eq
theorem dd_le (l m : List (List Int)) : (dd l).length ≤ (dd (l ++ m)).length := by
  refine list_snoc_ind (P := fun m => (dd l).length ≤ (dd (l ++ m)).length) (by simp) (fun m y ih => ?_) m
  rw [← List.append_assoc]
  by_cases h : y ∈ dd (l ++ m)
  · rw [dd_in h]; exact ih
  · rw [dd_out h, List.length_append]; simp; omega
theorem sw_dd (l : List (List Int)) : sw (dd l) = sw l := sw_same (dd_mem l)

/-- The joined words of the first k heads. -/
def pdU (hs ts : List (List Int)) (k : Nat) : List (List Int) := (hs.take k).flatMap fun h => ts.map fun t => h ++ t
/-- .. and of the head k with the first j tails. -/
def pdV (hs ts : List (List Int)) (k j : Nat) : List (List Int) := pdU hs ts k ++ (ts.take j).map fun t => hs.getD k [] ++ t
/-- All joined words. -/
def prdS (hs ts : List (List Int)) : List (List Int) := hs.flatMap fun h => ts.map fun t => h ++ t
theorem pdU_zero (hs ts : List (List Int)) : pdU hs ts 0 = [] := rfl
theorem pdV_zero (hs ts : List (List Int)) (k : Nat) : pdV hs ts k 0 = pdU hs ts k := by simp [pdV]
theorem pdV_succ {hs ts : List (List Int)} {k j : Nat} (h : j < ts.length) : pdV hs ts k (j + 1) = pdV hs ts k j ++ [hs.getD k [] ++ ts.getD j []] := by
  unfold pdV
  rw [List.take_succ_eq_append_getElem h, List.map_append, ← List.append_assoc, List.getD_eq_getElem?_getD (l := ts), List.getElem?_eq_getElem h]
  rfl
theorem pdU_succ {hs ts : List (List Int)} {k : Nat} (h : k < hs.length) : pdU hs ts (k + 1) = pdV hs ts k ts.length := by
  unfold pdV pdU
  rw [List.take_succ_eq_append_getElem h, List.flatMap_append, List.take_length, List.getD_eq_getElem?_getD, List.getElem?_eq_getElem h]
  simp
theorem pdU_all (hs ts : List (List Int)) : pdU hs ts hs.length = prdS hs ts := by unfold pdU prdS; rw [List.take_length]
theorem pdU_pre (hs ts : List (List Int)) (k : Nat) : ∃ m, prdS hs ts = pdU hs ts k ++ m := by
  refine ⟨(hs.drop k).flatMap fun h => ts.map fun t => h ++ t, ?_⟩
  unfold pdU prdS
  rw [← List.flatMap_append, List.take_append_drop]
theorem pdV_pre {hs ts : List (List Int)} {k j : Nat} (hk : k < hs.length) : ∃ m, prdS hs ts = pdV hs ts k j ++ m := by
  obtain ⟨m, hm⟩ := pdU_pre hs ts (k + 1)
  rw [pdU_succ hk] at hm
  refine ⟨(ts.drop j).map (fun t => hs.getD k [] ++ t) ++ m, ?_⟩
  rw [hm]
  unfold pdV
  rw [List.take_length, List.append_assoc, List.append_assoc, ← List.append_assoc (List.map _ _), ← List.map_append, List.take_append_drop]
theorem prdS_mem (hs ts : List (List Int)) (x : List Int) : x ∈ prdS hs ts ↔ ∃ h t, h ∈ hs ∧ t ∈ ts ∧ h ++ t = x := by
  unfold prdS
  rw [List.mem_flatMap]
  constructor
  · rintro ⟨h, hh, hx⟩
    obtain ⟨t, ht, e⟩ := List.mem_map.1 hx
    exact ⟨h, t, hh, ht, e⟩
  · rintro ⟨h, t, hh, ht, e⟩
    exact ⟨h, hh, List.mem_map.2 ⟨t, ht, e⟩⟩
theorem prdS_same {hs ts hs' ts' : List (List Int)} (h1 : ∀ x, x ∈ hs ↔ x ∈ hs') (h2 : ∀ x, x ∈ ts ↔ x ∈ ts') (x : List Int) : x ∈ prdS hs ts ↔ x ∈ prdS hs' ts' := by
  rw [prdS_mem, prdS_mem]
  exact exists_congr fun h => exists_congr fun t => by rw [h1, h2]
theorem over_limit {hs ts : List (List Int)} {k j : Nat} (hk : k < hs.length) (hj : j < ts.length) (hn : hs.getD k [] ++ ts.getD j [] ∉ dd (pdV hs ts k j)) (hl : (dd (pdV hs ts k j)).length = 10000) : 10000 < (sw (prdS hs ts)).length := by
  obtain ⟨m, hm⟩ := pdV_pre (ts := ts) (j := j + 1) hk
  rw [← dd_len, hm]
  have h1 := dd_le (pdV hs ts k (j + 1)) m
  rw [pdV_succ hj, dd_out hn, List.length_append] at h1
  rw [pdV_succ hj]
  rw [hl, List.length_singleton] at h1
  omega
end Go.Proofs.YtakhphhpjcpphaaGreatDoor
end

section
/- Product: its state, and what a round does to it. -/
namespace Go.Proofs.YtakhphhpjcpphaaGreatDoor
open Go.RowKit Go.Shelf

/-- The error of Product, and its words. -/
def prodE (a b : List (List Int)) : Int := if a = [] ∨ b = [] then 0 else if 1024 < lonS a + lonS b then 3 else if 10000 < (sw (prdS a b)).length then 11 else 0
def prodW (a b : List (List Int)) : List (List Int) := if a = [] ∨ b = [] then [] else if 1024 < lonS a + lonS b then [] else if 10000 < (sw (prdS a b)).length then [] else sw (prdS a b)
theorem nil_same {l m : List (List Int)} (h : ∀ x, x ∈ l ↔ x ∈ m) : l = [] ↔ m = [] := by
  constructor
  · rintro rfl
    exact List.eq_nil_iff_forall_not_mem.2 fun x hx => absurd ((h x).2 hx) (by simp)
  · rintro rfl
    exact List.eq_nil_iff_forall_not_mem.2 fun x hx => absurd ((h x).1 hx) (by simp)
theorem prod_same {hs ts a b : List (List Int)} (h1 : ∀ x, x ∈ hs ↔ x ∈ a) (h2 : ∀ x, x ∈ ts ↔ x ∈ b) : prodE hs ts = prodE a b ∧ prodW hs ts = prodW a b := by
  have e1 : (hs = [] ∨ ts = []) ↔ (a = [] ∨ b = []) := or_congr (nil_same h1) (nil_same h2)
  unfold prodE prodW
  rw [lonS_same h1, lonS_same h2, sw_same (prdS_same h1 h2)]
  by_cases e : a = [] ∨ b = []
  · rw [if_pos (e1.2 e), if_pos e, if_pos (e1.2 e), if_pos e]; exact ⟨rfl, rfl⟩
  · rw [if_neg (fun k => e (e1.1 k)), if_neg e, if_neg (fun k => e (e1.1 k)), if_neg e]; exact ⟨rfl, rfl⟩
theorem prod_none {a b : List (List Int)} (h : a = [] ∨ b = []) : prodE a b = 0 ∧ prodW a b = [] := by unfold prodE prodW; rw [if_pos h, if_pos h]; exact ⟨rfl, rfl⟩
theorem prod_long {a b : List (List Int)} (h : ¬ (a = [] ∨ b = [])) (h1 : 1024 < lonS a + lonS b) : prodE a b = 3 ∧ prodW a b = [] := by unfold prodE prodW; rw [if_neg h, if_neg h, if_pos h1, if_pos h1]; exact ⟨rfl, rfl⟩
theorem prod_many {a b : List (List Int)} (h : ¬ (a = [] ∨ b = [])) (h1 : ¬ 1024 < lonS a + lonS b) (h2 : 10000 < (sw (prdS a b)).length) : prodE a b = 11 ∧ prodW a b = [] := by
  unfold prodE prodW; rw [if_neg h, if_neg h, if_neg h1, if_neg h1, if_pos h2, if_pos h2]; exact ⟨rfl, rfl⟩
theorem prod_ok {a b : List (List Int)} (h : ¬ (a = [] ∨ b = [])) (h1 : ¬ 1024 < lonS a + lonS b) (h2 : ¬ 10000 < (sw (prdS a b)).length) : prodE a b = 0 ∧ prodW a b = sw (prdS a b) := by
  unfold prodE prodW; rw [if_neg h, if_neg h, if_neg h1, if_neg h1, if_neg h2, if_neg h2]; exact ⟨rfl, rfl⟩

theorem OwnR.keptG {w w' : World} {base : Nat} {v : Value} {qs : List HL} {r : Option Nat} (h : OwnR w base v qs) (hg : w.grownBy w' r) (hr : ∀ k, r = some k → k < base) : OwnR w' base v qs := by
  have key : ∀ {e : TypeId} {u : Value} {n : Nat} {xs : List Value}, w.ownsRow base e 1 u n xs → w'.ownsRow base e 1 u n xs := fun {e u n xs} ho => by
    refine World.ownsRow.kept ho hg ?_
    by_cases h0 : u.ownBlock = none
    · exact .inl h0
    · right
      intro e2
      obtain ⟨g, hgq⟩ := Option.ne_none_iff_exists'.1 h0
      have h1 := (World.ownsRow.lt ho g hgq).1
      have h2 := hr g (by rw [← e2]; exact hgq)
      omega
  exact ⟨⟨key h.1.1, h.1.2⟩, fun q hq => key (h.2.1 q hq), h.2.2⟩
theorem OwnR.drewN {w : World} {base : Nat} {v : Value} {qs : List HL} (h : OwnR w base v qs) (q : Nat) : OwnR (w.drewN q) base v qs := h
theorem SetIs.below {w w' : World} {b cnt B : Nat} {S : List (List UInt8)} (h : SetIs w b cnt S) (hb : Below B w w') (hlt : b < B) : SetIs w' b cnt S := by
  obtain ⟨D, ⟨es, ck, h1, r⟩, h2⟩ := h
  exact ⟨D, ⟨es, ck, (hb.block b hlt).trans h1, r⟩, h2⟩
theorem Cells.on {w w' w'' : World} (h : Cells w w') (hb : Below w.heap.size w' w'') : Cells w w'' :=
  ⟨Nat.le_trans h.1 hb.size, fun b o v e => (hb.cell (p := ⟨b, o, none⟩) (block_lt e)).trans (h.2 b o v e)⟩

/-- The state of Product's loops: the words found so far, in memory of the call's own, and the set of their texts. -/
def PrS (w w4 : World) (MB : Nat) (F : List (List Int)) (v : Value) (wr : World) : Prop :=
  OwnW wr w4.heap.size v F ∧ SetIs wr MB F.length (F.map kt) ∧ Cells w4 wr ∧ Below w.heap.size w wr ∧ F.length ≤ 10000
theorem kt_in {F : List (List Int)} {x : List Int} : decide (kt x ∈ F.map kt) = decide (x ∈ F) := by
  by_cases h : x ∈ F
  · rw [decide_eq_true h, decide_eq_true (List.mem_map_of_mem h)]
  · rw [decide_eq_false h, decide_eq_false]
    intro e
    obtain ⟨y, hy, e⟩ := List.mem_map.1 e
    rw [kt_inj e] at hy
    exact h hy
theorem PrS.drewN {w w4 wr : World} {MB : Nat} {F : List (List Int)} {v : Value} (h : PrS w w4 MB F v wr) (q : Nat) : PrS w w4 MB F v (wr.drewN q) := ⟨h.1, h.2.1, h.2.2.1, below_drewN h.2.2.2.1 q, h.2.2.2.2⟩
/-- A word is added. -/
theorem PrS.step {w w4 wr w1 w2 w3 w5 : World} {MB : Nat} {F : List (List Int)} {v v' : Value} {x : List Int} {B : Option Addr} {m d : Nat} {qs : List HL}
    (h : PrS w w4 MB F v wr) (hM : MB < w4.heap.size) (hM0 : w.heap.size ≤ MB) (hw4 : w.heap.size ≤ w4.heap.size) (hset : SetIs w1 MB (F.length + 1) ((F ++ [x]).map kt)) (hg : wr.grownBy w1 (some MB)) (hlt : F.length < 10000)
    (hb2 : Below w1.heap.size w1 w2) (hqs : OwnR w2 w4.heap.size v qs) (hqf : qs.map Prod.snd = F) (hb3 : Below w2.heap.size w2 w3) (hx : Owned w3 w2.heap.size (.slice B m d) x)
    (hr : HRow w5 w4.heap.size v' (qs ++ [(.slice B m d, x)])) (hg5 : w3.grownBy w5 v.ownBlock) (hb5 : Below w4.heap.size w3 w5) : PrS w w4 MB (F ++ [x]) v' w5 := by
  have hs1 : w4.heap.size ≤ w1.heap.size := Nat.le_trans h.2.2.1.1 hg.size
  have hc1 : Cells w4 w1 := h.2.2.1.trans (Cells.map h.2.1 hg)
  have hB : Below w4.heap.size w1 w5 := (hb2.mono hs1).trans ((hb3.mono (Nat.le_trans hs1 hb2.size)).trans hb5)
  refine ⟨⟨_, hqs.app hb3 hx (Nat.le_trans hs1 hb2.size) hr hg5, by rw [List.map_append, hqf]; rfl⟩, ?_, hc1.on hB, ?_, by rw [List.length_append]; simp; omega⟩
  · rw [List.length_append]
    exact hset.below hB hM
  · have hb1 : Below w.heap.size wr w1 := (Below.refl _ _).grown hg (Nat.le_trans hw4 h.2.2.1.1) (fun k hk => by cases hk; exact hM0)
    exact h.2.2.2.1.trans (hb1.trans (hB.mono hw4))
end Go.Proofs.YtakhphhpjcpphaaGreatDoor
end

section
/- Product: its walk. -/
namespace Go.Proofs.YtakhphhpjcpphaaGreatDoor
open Go.RowKit Go.Shelf

/-- append at a step of a region that draws. -/
theorem step_app_w {P : Program} {ops : Array Oper} {o : Oper} {a : Act} {w : World} {K : Act → World → Prop} {Q : Exit → Act → World → Prop} {E : Prop} (hgd : o.guard = none) (s x : Operand) (t tn : TypeId)
    (ho : o.op = .call { callee := .builtin .append, args := #[s, x], argTypes := #[t, tn] }) (vs vx : Value) (hs : a.eval s = vs) (hx : a.eval x = vx)
    (v' : Value) (w' : World) (hr : (Builtin.append_ #[t, tn] o.type #[vs, vx]).run P w = .ok v' w') (h : K (a.put o.dst v') w') :
    if Region.wanted o (yielded ops a.tmps) = true then Oper.wp P o a w K Q else E := by
  have hw : Region.wanted o (yielded ops a.tmps) = true := by simp [Region.wanted, hgd]
  rw [if_pos hw]
  exact Lib.wp_append_run w s x t tn ho vs vx hs hx v' w' hr h
theorem bytes_app (a b : List UInt8) : (⟨a.toArray⟩ : ByteArray) ++ ⟨b.toArray⟩ = ⟨(a ++ b).toArray⟩ := by
  have h : ((⟨a.toArray⟩ : ByteArray) ++ ⟨b.toArray⟩).data = (a ++ b).toArray := by
    rw [ByteArray.data_append]; simp
  rw [← h]
theorem list_nil_iff {l : List (List Int)} {n : Nat} (h : l.length = n) : l = [] ↔ n = 0 := by rw [← h]; exact List.length_eq_zero_iff.symm

set_option maxHeartbeats 4000000 in
set_option maxRecDepth 100000 in
theorem pproduct (w : World) (A B : Option Addr) (n c m d : Nat) (a b : List (List Int)) (ha : ListsC w A n a) (hb : ListsC w B m b) (ha64 : ∀ x, x ∈ a → In64 x) (hb64 : ∀ x, x ∈ b → In64 x) (hn : n ≤ 68719476736) (hm : m ≤ 68719476736)
    (T : Lib.TabBelow Tryz.prog w.heap.size w "internal/strconv.uint64pow10" .u64 Lib.pow10Tab) :
    Calls Tryz.prog 19 #[.slice A n c, .slice B m d] w fun e w' => ∃ v, e = .returned (.tuple #[v, .int .i64 (prodE a b)]) ∧ OwnW w' w.heap.size v (prodW a b) ∧ Below w.heap.size w w' := by
  have AL := Lib.hid ha.1
  have BL := Lib.hid hb.1
  have HA := Lib.hid ha
  have HB := Lib.hid hb
  have HA6 := Lib.hid ha64
  have HB6 := Lib.hid hb64
  have TT := Lib.hid T
  clear ha hb ha64 hb64 T
  go_enter Tryz.func19, Tryz.ntmps19
  go_wp2_with fail
  refine (pdifferent 26 shlex totS entS ordS w A n c a HA.out (by omega)).mono ?_
  rintro e w1 ⟨A1, m1, c1, rfl, hD⟩
  obtain ⟨ps1, _, _, l1, b1, hasc1, hmem1, hm1⟩ := hD.open (by rw [AL.out]; omega)
  obtain ⟨hs, hhs⟩ : ∃ hs, hs = ps1.map Prod.snd := ⟨_, rfl⟩
  rw [← hhs] at l1 hmem1 hasc1
  have B1 := Lib.hid b1
  have L1 := Lib.hid l1
  have M1 := Lib.hid hmem1
  rw [AL.out] at hm1
  clear hD hasc1 hmem1 b1 l1 hhs
  go_wp2_with fail
  refine (pdifferent 26 shlex totS entS ordS w1 B m d b (HB.out.below B1.out) (by omega)).mono ?_
  rintro e w2 ⟨A2, m2, c2, rfl, hD⟩
  obtain ⟨ps2, _, _, l2, b2, hasc2, hmem2, hm2⟩ := hD.open (by rw [BL.out]; omega)
  obtain ⟨ts, hts⟩ : ∃ ts, ts = ps2.map Prod.snd := ⟨_, rfl⟩
  rw [← hts] at l2 hmem2 hasc2
  have B2 := Lib.hid (B1.out.trans (b2.mono B1.out.size))
  have L2 := Lib.hid l2
  have L1b := Lib.hid (L1.out.below b2)
  have M2 := Lib.hid hmem2
  rw [BL.out] at hm2
  have SM := Lib.hid (prod_same M1.out M2.out)
  have N1 := Lib.hid (list_nil_iff L1.out.1)
  have N2 := Lib.hid (list_nil_iff L2.out.1)
  clear hD hasc2 hmem2 b2 l2 hts
  by_cases h01 : m1 = 0
  · have PN := Lib.hid (prod_none (a := hs) (b := ts) (.inl (N1.out.2 h01)))
    have d1 : ((m1 : Int) == 0) = true := by simp; omega
    clear h01
    go_wp2
    go_ret2
    exact ⟨_, by rw [← SM.out.1, PN.out.1]; rfl, by rw [← SM.out.2, PN.out.2]; exact ⟨[], OwnR.nil _ _, rfl⟩, B2.out⟩
  · have d1 : ((m1 : Int) == 0) = false := by simp; omega
    by_cases h02 : m2 = 0
    · have PN := Lib.hid (prod_none (a := hs) (b := ts) (.inr (N2.out.2 h02)))
      have d2 : ((m2 : Int) == 0) = true := by simp; omega
      clear h02 h01
      go_wp2
      go_ret2
      exact ⟨_, by rw [← SM.out.1, PN.out.1]; rfl, by rw [← SM.out.2, PN.out.2]; exact ⟨[], OwnR.nil _ _, rfl⟩, B2.out⟩
    · have d2 : ((m2 : Int) == 0) = false := by simp; omega
      have NE := Lib.hid (show ¬ (hs = [] ∨ ts = []) from fun k => k.elim (fun e => h01 (N1.out.1 e)) fun e => h02 (N2.out.1 e))
      have la : lonS hs ≤ 17592186044416 := lonS_le L1.out.len
      have lb : lonS ts ≤ 17592186044416 := lonS_le L2.out.len
      obtain ⟨p, hp⟩ : ∃ p, p = lonS hs := ⟨_, rfl⟩
      obtain ⟨q, hq⟩ : ∃ q, q = lonS ts := ⟨_, rfl⟩
      have c1 := plongest w2 A1 m1 c1 hs L1b.out.lists
      have c2 := plongest w2 A2 m2 c2 ts L2.out.lists
      rw [← hp] at la c1
      rw [← hq] at lb c2
      have C1 := Lib.hid c1
      have C2 := Lib.hid c2
      have HP := Lib.hid hp
      have HQ := Lib.hid hq
      clear c1 c2 hp hq
      have hm1p : 0 < m1 := by omega
      have hm2p : 0 < m2 := by omega
      clear h01 h02
      by_cases hlong : 1024 < p + q
      · have PN := Lib.hid (prod_long NE.out (by rw [← HP.out, ← HQ.out]; exact hlong))
        have d3 : (1024 : Int) < (p : Int) + (q : Int) := by omega
        clear hlong
        go_wp2_with fail
        refine C1.out.mono ?_
        rintro e w' ⟨rfl, rfl⟩
        go_wp2_with fail
        refine C2.out.mono ?_
        rintro e w' ⟨rfl, rfl⟩
        go_wp2
        go_ret2
        exact ⟨_, by rw [← SM.out.1, PN.out.1]; rfl, by rw [← SM.out.2, PN.out.2]; exact ⟨[], OwnR.nil _ _, rfl⟩, B2.out⟩
      · have d3 : (p : Int) + (q : Int) ≤ 1024 := by omega
        have NL := Lib.hid (show ¬ 1024 < lonS hs + lonS ts by rw [← HP.out, ← HQ.out]; exact hlong)
        clear hlong
        have hmm := @run_makeMap Tryz.prog
        go_wp2_with fail
        refine C1.out.mono ?_
        rintro e w' ⟨rfl, rfl⟩
        go_wp2_with fail
        refine C2.out.mono ?_
        rintro e w' ⟨rfl, rfl⟩
        have SM0 := Lib.hid (SetIs.made w2)
        have BM := Lib.hid (alloc_below w2 (.map #[] 0))
        have TM := Lib.hid (tab_at TT.out (B2.out.trans (BM.out.mono B2.out.size)))
        have PL1 := Lib.hid (show ∀ x, x ∈ hs → x.length ≤ 1024 from fun x hx => by have := lonS_ge hx; have := NL.out; omega)
        have PL2 := Lib.hid (show ∀ x, x ∈ ts → x.length ≤ 1024 from fun x hx => by have := lonS_ge hx; have := NL.out; omega)
        have P61 := Lib.hid (show ∀ x, x ∈ hs → In64 x from fun x hx => HA6.out x ((M1.out x).1 hx))
        have P62 := Lib.hid (show ∀ x, x ∈ ts → In64 x from fun x hx => HB6.out x ((M2.out x).1 hx))
        go_wp2_with fail
        refine (pkeys _ A2 m2 c2 ts (L2.out.below BM.out).lists (fun x hx => Nat.le_trans (PL2.out x hx) (by omega)) P62.out (by omega) TM.out).mono ?_
        rintro e w3 ⟨v1, rfl, k1, b3⟩
        obtain ⟨K1, kc1, rfl⟩ := k1.form
        rw [List.length_map, L2.out.1] at k1 ⊢
        have K1R := Lib.hid k1
        have B3 := Lib.hid b3
        clear k1 b3
        go_wp2_with fail
        refine (pkeys w3 A1 m1 _ hs ((L1b.out.below BM.out).below B3.out).lists (fun x hx => Nat.le_trans (PL1.out x hx) (by omega)) P61.out (by omega) (tab_at TM.out B3.out)).mono ?_
        rintro e w4 ⟨v2, rfl, k2, b4⟩
        obtain ⟨K2, kc2, rfl⟩ := k2.form
        rw [List.length_map, L1b.out.1] at k2 ⊢
        have K2R := Lib.hid k2
        have B4 := Lib.hid b4
        clear k2 b4
        have HM0 := Lib.hid (show SetIs w4 w2.heap.size 0 [] from ((SM0.out.below B3.out (by simp)).below B4.out (by have := BM.out.size; have := B3.out.size; simp at *; omega)))
        have B34 := Lib.hid (BM.out.trans ((B3.out.trans (B4.out.mono B3.out.size)).mono BM.out.size))
        have hM : w2.heap.size < w4.heap.size := SetIs.lt HM0.out
        have hw2 : w.heap.size ≤ w2.heap.size := B2.out.size
        have K1S := Lib.hid (show SRow w4 (w2.alloc (.map #[] 0)).heap.size (.slice K1 m2 kc1) (ts.map kt) from row_kept K1R.out B4.out)
        have LH := Lib.hid (show ListsC w4 A1 m1 hs from ((L1b.out.below BM.out).below B3.out).below B4.out)
        have LT := Lib.hid (show ListsC w4 A2 m2 ts from ((L2.out.below BM.out).below B3.out).below B4.out)
        have PS0 := Lib.hid (show PrS w w4 w2.heap.size [] (.slice none 0 0) w4 from ⟨⟨[], OwnR.nil _ _, rfl⟩, HM0.out, Cells.refl _, B2.out.trans (B34.out.mono B2.out.size), by simp⟩)
        clear hmm
        go_wp2
        go_loopw [8, 40] (fun v i wr => ∃ k : Nat, k ≤ m1 ∧ i = .int .i64 k ∧ PrS w w4 w2.heap.size (dd (pdU hs ts k)) v wr) (fun _ i _ => m1 - (intOf i).toNat)
        case atStart => exact ⟨0, Nat.zero_le _, rfl, PS0.out⟩
        case round =>
          obtain ⟨k, hk, rfl, hps⟩ := hrel
          by_cases hlt : k < m1
          · have hkh : k < hs.length := by rw [LH.out.1]; exact hlt
            obtain ⟨g2, e2, _, _, hc2⟩ := K2R.out.at_ (k := k) (by rw [List.length_map]; exact hkh)
            subst e2
            have hc2' := hps.2.2.1.2 _ _ _ hc2
            obtain ⟨s1, hs1⟩ : ∃ s1 : ByteArray, s1 = ⟨(kt (hs.getD k [])).toArray⟩ := ⟨_, rfl⟩
            have hv1 : strv ((hs.map kt).getD k []) = .string s1 := by
              rw [hs1, List.getD_eq_getElem?_getD, List.getElem?_map, List.getElem?_eq_getElem hkh, List.getD_eq_getElem?_getD, List.getElem?_eq_getElem hkh]; rfl
            rw [hv1] at hc2'
            have HS1 := Lib.hid hs1
            have hxm : hs.getD k [] ∈ hs := by rw [List.getD_eq_getElem?_getD, List.getElem?_eq_getElem hkh]; exact List.getElem_mem _
            have z1 : s1.size ≤ 22 * 1024 := by
              rw [hs1]
              have h1 := kt_len (w := hs.getD k []) (P61.out _ hxm)
              have h2 := PL1.out _ hxm
              show (kt (hs.getD k [])).toArray.size ≤ _
              simp only [List.size_toArray]; omega
            have HPS := Lib.hid hps
            clear hps hs1 hv1 hc2 hxm
            go_wp2
            obtain ⟨wo, hwo⟩ : ∃ wo : World, wo = wr := ⟨_, rfl⟩
            rw [← hwo] at hc2' HPS ⊢
            clear hwo hc2'
            go_loopw [8, 47] (fun v i wr => ∃ j : Nat, j ≤ m2 ∧ i = .int .i64 j ∧ PrS w w4 w2.heap.size (dd (pdV hs ts k j)) v wr) (fun _ i _ => m2 - (intOf i).toNat)
            case atStart => exact ⟨0, Nat.zero_le _, rfl, by rw [pdV_zero]; exact HPS.out⟩
            case round =>
              obtain ⟨j, hj, rfl, hps⟩ := hrel
              by_cases hlt2 : j < m2
              · have hjt : j < ts.length := by rw [LT.out.1]; exact hlt2
                obtain ⟨g1, e1, _, _, hc1⟩ := K1S.out.at_ (k := j) (by rw [List.length_map]; exact hjt)
                subst e1
                have hc1' := hps.2.2.1.2 _ _ _ hc1
                obtain ⟨s2, hs2⟩ : ∃ s2 : ByteArray, s2 = ⟨(kt (ts.getD j [])).toArray⟩ := ⟨_, rfl⟩
                have hv2 : strv ((ts.map kt).getD j []) = .string s2 := by
                  rw [hs2, List.getD_eq_getElem?_getD, List.getElem?_map, List.getElem?_eq_getElem hjt, List.getD_eq_getElem?_getD, List.getElem?_eq_getElem hjt]; rfl
                rw [hv2] at hc1'
                have htm : ts.getD j [] ∈ ts := by rw [List.getD_eq_getElem?_getD, List.getElem?_eq_getElem hjt]; exact List.getElem_mem _
                have z2 : s2.size ≤ 22 * 1024 := by
                  rw [hs2]
                  have h1 := kt_len (w := ts.getD j []) (P62.out _ htm)
                  have h2 := PL2.out _ htm
                  show (kt (ts.getD j [])).toArray.size ≤ _
                  simp only [List.size_toArray]; omega
                obtain ⟨F, hF⟩ : ∃ F, F = dd (pdV hs ts k j) := ⟨_, rfl⟩
                obtain ⟨x, hx⟩ : ∃ x, x = hs.getD k [] ++ ts.getD j [] := ⟨_, rfl⟩
                have hks : (s1 ++ s2).data.toList = kt x := by
                  rw [HS1.out, hs2, bytes_app, hx, kt_app]
                have hsz : (s1 ++ s2).size ≤ maxLen := by rw [ByteArray.size_append]; unfold maxLen; omega
                rw [← hF] at hps
                have hlook := hps.2.1.look (s1 ++ s2) hsz
                rw [hks, kt_in] at hlook
                obtain ⟨Av, cv, ev⟩ := hps.1.form
                subst ev
                have hcat : ¬ 9223372036854775807 < s1.size + s2.size := by omega
                have HF := Lib.hid hF
                have HX := Lib.hid hx
                have HKS := Lib.hid hks
                have HSZ := Lib.hid hsz
                have HPS2 := Lib.hid hps
                have SV := Lib.hid (pdV_succ (hs := hs) (k := k) hjt)
                by_cases hin : x ∈ F
                · rw [decide_eq_true hin] at hlook
                  have HN := Lib.hid (show dd (pdV hs ts k (j + 1)) = F by rw [SV.out, ← HX.out, dd_in (by rw [← HF.out]; exact hin), HF.out])
                  clear hps hs2 hv2 hc1 htm hF hx hks hsz hin
                  go_wp2
                  go_roundw
                  case rel => exact ⟨j + 1, by omega, by go_num, by rw [HN.out]; exact HPS2.out⟩
                  case measure => simp [intOf]; omega
                · rw [decide_eq_false hin] at hlook
                  obtain ⟨fl, hfl⟩ : ∃ fl, fl = F.length := ⟨_, rfl⟩
                  have hfle := hps.2.2.2.2
                  rw [← hfl] at hfle ⊢
                  have HFL := Lib.hid hfl
                  by_cases h10 : fl = 10000
                  · have OV := Lib.hid (over_limit hkh hjt (by rw [← HX.out, ← HF.out]; exact hin) (by rw [← HF.out, ← hfl]; exact h10))
                    have PN := Lib.hid (prod_many NE.out NL.out OV.out)
                    have t10 : ((fl : Int) == 10000) = true := by simp; omega
                    clear hps hs2 hv2 hc1 htm hF hx hks hsz hin hfl h10
                    go_wp2
                    go_ret2
                    exact ⟨_, by rw [← SM.out.1, PN.out.1]; rfl, by rw [← SM.out.2, PN.out.2]; exact ⟨[], OwnR.nil _ _, rfl⟩, HPS2.out.2.2.2.1⟩
                  · have t10 : ((fl : Int) == 10000) = false := by simp; omega
                    obtain ⟨w5, hput, hset, hg5⟩ := hps.2.1.put (s1 ++ s2) hsz (by unfold maxLen; omega)
                    rw [hks] at hset
                    have hset' : SetIs w5 w2.heap.size (F.length + 1) ((F ++ [x]).map kt) := by rw [List.map_append]; exact hset
                    have HSET := Lib.hid hset'
                    have HG5 := Lib.hid hg5
                    have HN := Lib.hid (show dd (pdV hs ts k (j + 1)) = F ++ [x] by rw [SV.out, ← HX.out, dd_out (by rw [← HF.out]; exact hin), HF.out])
                    have C5 := Lib.hid (hps.2.2.1.trans (Cells.map hps.2.1 hg5))
                    have FLT := Lib.hid (show F.length < 10000 by rw [← hfl]; omega)
                    have FL2 := Lib.hid (show F.length = fl from hfl.symm)
                    obtain ⟨bh, oh, Bh, mh, dh, eh, _, ch, _, ih⟩ := LH.out.at_ hlt
                    obtain ⟨bt, ot, Bt, mt, dt, et, _, ct, _, it⟩ := LT.out.at_ hlt2
                    subst eh
                    subst et
                    have ch5 := C5.out.2 _ _ _ ch
                    have ct5 := C5.out.2 _ _ _ ct
                    have hml : mh + mt ≤ 17592186044416 := by
                      have h1 := PL1.out (hs.getD k []) (by rw [List.getD_eq_getElem?_getD, List.getElem?_eq_getElem hkh]; exact List.getElem_mem _)
                      have h2 := PL2.out (ts.getD j []) htm
                      rw [ih.1] at h1
                      rw [it.1] at h2
                      omega
                    have IH := Lib.hid (ih.cells C5.out)
                    have IT := Lib.hid (it.cells C5.out)
                    obtain ⟨qs, hqr, hqf⟩ := HPS2.out.1
                    have HQF := Lib.hid hqf
                    have QL := Lib.hid (show qs.length = fl by have := congrArg List.length hqf; rw [List.length_map] at this; rw [this, ← hfl])
                    have HQ5 := Lib.hid (hqr.keptG HG5.out (fun g hg => by cases hg; exact hM))
                    rw [← hfl] at HQ5
                    have S5 := Lib.hid (show w4.heap.size ≤ w5.heap.size from C5.out.1)
                    have HPS3 := Lib.hid (show PrS w w4 w2.heap.size F (.slice Av fl cv) wr by rw [hfl]; exact hps)
                    have hflt : fl < 10000 := by omega
                    clear hps hs2 hv2 hc1 htm hF hx hks hsz hin hfl h10 hset hset' hg5 ch ct ih it hqr hqf
                    go_wp2
                    go_region_law (first
                      | (refine step_app_w rfl _ _ _ _ rfl _ _ rfl rfl _ _ hr8 ?_)
                      | (go_simp; go_at_call 37; refine (wjoin2 Bh Bt mh dh mt dt _ _ _ (IH.out.drewN _) (IT.out.drewN _) hml).mono ?_; rintro e w7 ⟨A7, c7, rfl, o7, b7⟩
                         rw [← HX.out] at o7
                         obtain ⟨A8, c8, w8, hr8, h8, g8, bb8⟩ := run_append_head (B := A7) (m := mh + mt) (d := c7) ((HQ5.out.drewN _).kept b7).1 x (Nat.le_trans S5.out b7.size) (by rw [QL.out]; omega)
                         have HST := Lib.hid (PrS.step HPS3.out hM hw2 (by omega) HSET.out HG5.out FLT.out (below_drewN (Below.refl _ _) _) (HQ5.out.drewN _) HQF.out b7 o7 h8 g8 bb8)
                         rw [QL.out] at hr8 HST
                         clear h8 g8 bb8 o7 b7))
                    all_goals
                      go_wp2
                      go_roundw
                      case rel => exact ⟨j + 1, by omega, by go_num, by rw [HN.out]; exact HST.out⟩
                      case measure => simp [intOf]; omega
              · obtain rfl : j = m2 := by omega
                have HPS2 := Lib.hid hps
                clear hps
                go_wp2
                go_roundw
                case rel => exact ⟨k + 1, by omega, by go_num, by rw [pdU_succ (by rw [LH.out.1]; exact hlt), LT.out.1]; exact HPS2.out⟩
                case measure => simp [intOf]; omega
          · obtain rfl : k = m1 := by omega
            rw [show pdU hs ts k = prdS hs ts by rw [← pdU_all, LH.out.1]] at hps
            obtain ⟨F, hF⟩ : ∃ F, F = dd (prdS hs ts) := ⟨_, rfl⟩
            rw [← hF] at hps
            have hnd : F.Nodup := by rw [hF]; exact dd_nodup _
            have hsw : sw F = sw (prdS hs ts) := by rw [hF, sw_dd]
            have hlen : ∀ x, x ∈ F → x.length ≤ 17592186044416 := fun x hx => by
              rw [hF, dd_mem, prdS_mem] at hx
              obtain ⟨h, t, hh, ht, rfl⟩ := hx
              have h1 := PL1.out h hh
              have h2 := PL2.out t ht
              rw [List.length_append]; omega
            have hle := hps.2.2.2.2
            have PN := Lib.hid (prod_ok NE.out NL.out (show ¬ 10000 < (sw (prdS hs ts)).length by rw [← dd_len, ← hF]; omega))
            obtain ⟨Av, cv, ev⟩ := hps.1.form
            subst ev
            have HPS := Lib.hid hps
            have ND := Lib.hid hnd
            have SW := Lib.hid hsw
            have LE := Lib.hid hlen
            have FL := Lib.hid hle
            obtain ⟨fl, hfl⟩ : ∃ fl, fl = F.length := ⟨_, rfl⟩
            have hown := hps.1
            rw [← hfl] at hown ⊢
            have HO := Lib.hid hown
            have HFL := Lib.hid hfl
            clear hps hF hnd hsw hlen hle hown hfl
            go_wp2_with fail
            refine (parrOwn wr w4.heap.size Av fl cv F HO.out LE.out (by rw [HFL.out]; have := FL.out; omega) HPS.out.2.2.1.1 ND.out).mono ?_
            rintro e w6 ⟨rfl, h6, b6⟩
            have H6 := Lib.hid h6
            have B6 := Lib.hid b6
            clear h6 b6
            go_wp2
            go_ret2
            exact ⟨_, by rw [← SM.out.1, PN.out.1]; rfl, by rw [← SM.out.2, PN.out.2, ← SW.out]; exact H6.out.lower (by omega), HPS.out.2.2.2.1.trans (B6.out.mono (by omega))⟩
end Go.Proofs.YtakhphhpjcpphaaGreatDoor
end

section
/- Lists that agree; readers that draw more. -/
namespace Go.Proofs.YtakhphhpjcpphaaGreatDoor
open Go.RowKit

/-- Two lists agree on the first j. -/
def AgreeL {α : Type} (d : α) (xs ys : List α) (j : Nat) : Prop := ∀ m, m < j → xs.getD m d = ys.getD m d
theorem AgreeL.zero {α : Type} (d : α) (xs ys : List α) : AgreeL d xs ys 0 := fun m h => absurd h (by omega)
theorem AgreeL.succ {α : Type} {d : α} {xs ys : List α} {j : Nat} (h : AgreeL d xs ys j) (e : xs.getD j d = ys.getD j d) : AgreeL d xs ys (j + 1) := fun m hm => by
  by_cases e2 : m = j
  · subst e2; exact e
  · exact h m (by omega)
theorem AgreeL.all {α : Type} {d : α} {xs ys : List α} {n : Nat} (h : AgreeL d xs ys n) (h1 : xs.length = n) (h2 : ys.length = n) : xs = ys := by
  apply List.ext_getElem (by omega)
  intro m a b
  have := h m (by omega)
  rw [List.getD_eq_getElem?_getD, List.getD_eq_getElem?_getD, List.getElem?_eq_getElem a, List.getElem?_eq_getElem b] at this
  exact this

theorem drew_more {w wr : World} (h : ∃ q, wr = w.drewN q) (n : Nat) : ∃ q, wr.drewN n = w.drewN q := by
  obtain ⟨q, rfl⟩ := h
  exact ⟨_, World.drewN_drewN _ _ _⟩
theorem ret_bool {a b : Bool} (h : a = b) : Ending.returned (.bool a) = .returned (.bool b) := by rw [h]
end Go.Proofs.YtakhphhpjcpphaaGreatDoor
end

section
/- The reference's SameWords. -/
namespace Go.Proofs.YtakhphhpjcpphaaGreatDoor
open Go.RowKit

theorem rsameD (A B : Option Addr) (n c m d : Nat) (xs ys : List Int) (b : Bool) (w : World) (hx : Ints w A n xs) (hy : Ints w B m ys) (hb : b = decide (xs = ys)) :
    Calls Tryz.prog 23 #[.slice A n c, .slice B m d] w fun e w' => e = .returned (.bool b) ∧ ∃ q, w' = w.drewN q :=
  rsame A B n c m d xs ys b w hx hy (by rw [hb]; simp)

set_option maxHeartbeats 1000000 in
theorem rsameWords (A B : Option Addr) (n c m d : Nat) (xs ys : List (List Int)) (b : Bool) (w : World) (hx : Lists w A n xs) (hy : Lists w B m ys) (hb : b = decide (xs = ys)) :
    Calls Tryz.prog 8 #[.slice A n c, .slice B m d] w fun e w' => e = .returned (.bool b) ∧ ∃ q, w' = w.drewN q := by
  have L1 := Lib.hid hx.1
  have L2 := Lib.hid hy.1
  have hn := hx.2.1
  have hm := hy.2.1
  by_cases hnm : n = m
  · subst hnm
    have HB := Lib.hid hb
    clear hb
    go_enter Tryz.func8, Tryz.ntmps8
    go_wp2
    go_loopw [5] (fun i wr => ∃ j : Nat, j ≤ n ∧ i = .int .i64 j ∧ AgreeL [] xs ys j ∧ ∃ q, wr = w.drewN q) (fun i _ => n - (intOf i).toNat)
    case atStart => exact ⟨0, Nat.zero_le _, rfl, AgreeL.zero _ _ _, 0, rfl⟩
    case round =>
      obtain ⟨j, hj, rfl, heq, hw⟩ := hrel
      have hx' : Lists wr A n xs := by obtain ⟨q, rfl⟩ := hw; exact hx
      have hy' : Lists wr B n ys := by obtain ⟨q, rfl⟩ := hw; exact hy
      have HW := Lib.hid hw
      clear hw
      have HE := Lib.hid heq
      clear heq
      by_cases hlt : j < n
      · obtain ⟨g1, o1, A1, n1, c1, rfl, _, hc1, hi1⟩ := hx'.at_ hlt
        obtain ⟨g2, o2, A2, n2, c2, rfl, _, hc2, hi2⟩ := hy'.at_ hlt
        by_cases he : xs.getD j [] = ys.getD j []
        · have hnx := Lib.hid (HE.out.succ he)
          have hd := Lib.hid ((decide_eq_true he).symm)
          clear he
          go_wp2
          go_quiet ((go_at_call 23; exact Calls.quiet_of (rsameD _ _ _ _ _ _ _ _ _ _ hi1 hi2 hd.out)))
          go_wp2
          go_roundw
          case rel => exact ⟨j + 1, by omega, by go_num, hnx.out, drew_more HW.out _⟩
          case measure => simp [intOf]; omega
        · have hfin : Hid (b = false) := Lib.hid (HB.out.trans (decide_eq_false fun e => he (by rw [e])))
          have hd := Lib.hid ((decide_eq_false he).symm)
          clear he
          go_wp2
          go_quiet ((go_at_call 23; exact Calls.quiet_of (rsameD _ _ _ _ _ _ _ _ _ _ hi1 hi2 hd.out)))
          go_wp2
          go_ret
          exact ⟨ret_bool hfin.out.symm, by first | exact drew_more HW.out _ | exact HW.out⟩
      · obtain rfl : j = n := by omega
        have hfin : Hid (b = true) := Lib.hid (HB.out.trans (decide_eq_true (HE.out.all L1.out L2.out)))
        go_wp2
        go_ret
        exact ⟨ret_bool hfin.out.symm, by first | exact drew_more HW.out _ | exact HW.out⟩
  · have hfin : Hid (b = false) := Lib.hid (hb.trans (decide_eq_false fun e => hnm (by rw [← L1.out, ← L2.out, e])))
    have hd : ((n : Int) != (m : Int)) = true := by simp; omega
    clear hnm hb
    go_enter Tryz.func8, Tryz.ntmps8
    go_wp2
    go_ret
    exact ⟨ret_bool hfin.out.symm, 0, rfl⟩

end Go.Proofs.YtakhphhpjcpphaaGreatDoor
end
