/- Lemmas of the proofs of this seat, of the parts Rcov. Conditions: none. -/
import Derived.Test.YtedcdpmflcegbaaNae
import Derived.Test.YtedcdpmflcegbaaNad
section
/- The reference's Covered. -/
namespace Go.Proofs.Ytedcdpmflcegbaa
open Go.RowKit

/-- A list of visited states. -/
def Vis (vl : List Int) (T : Tk) : Prop := vl.length = T.ns ∧ ∀ p : Nat, ((p : Int) ∈ vl) ↔ T.vis p = true
theorem Vis.vst_in {vl : List Int} {T : Tk} (h : Vis vl T) (hp : (T.pos : Int) ∈ vl) : T.vst = T := by
  unfold Tk.vst
  rw [if_pos ((h.2 _).1 hp)]
theorem Vis.vst_out {vl : List Int} {T : Tk} (h : Vis vl T) (hp : ¬ (T.pos : Int) ∈ vl) : Vis (vl ++ [(T.pos : Int)]) T.vst := by
  have hv : ¬ T.vis T.pos = true := fun h9 => hp ((h.2 _).2 h9)
  unfold Tk.vst
  rw [if_neg hv]
  refine ⟨by rw [List.length_append, h.1]; rfl, fun p => ?_⟩
  rw [List.mem_append, h.2 p]
  show T.vis p = true ∨ (p : Int) ∈ [(T.pos : Int)] ↔ (T.vis p || p == T.pos) = true
  rw [Bool.or_eq_true, List.mem_singleton, beq_iff_eq]
  constructor
  · rintro (h1 | h1)
    · exact .inl h1
    · exact .inr (by omega)
  · rintro (h1 | h1)
    · exact .inl h1
    · exact .inr (by omega)
theorem Vis.go {vl : List Int} {T : Tk} (h : Vis vl T) (x s : Nat) : Vis vl ((T.mrk x).to s) := by
  have h1 := (Tk.mrk_n T x).2.2
  have h2 : (T.mrk x).vis = T.vis := by unfold Tk.mrk; split <;> rfl
  refine ⟨by rw [h.1]; exact h1.symm, fun p => ?_⟩
  show _ ↔ (T.mrk x).vis p = true
  rw [h2]; exact h.2 p
theorem Tk.vst_vst (T : Tk) : T.vst.vst = T.vst := by
  have h : T.vst.vis T.vst.pos = true := by
    rw [Tk.vst_pos]
    unfold Tk.vst
    split
    · assumption
    · show (T.vis T.pos || T.pos == T.pos) = true
      simp
  show (if T.vst.vis T.vst.pos = true then T.vst else _) = T.vst
  rw [if_pos h]

theorem rcheckD (A : Option Addr) (n c : Nat) (k : Int) (xs : List Int) (w : World) (h : Ints w A n xs) :
    Calls Try.prog 45 #[.slice A n c, .int .i64 k] w fun e w' => e = .returned (.int .i64 (chk xs k)) ∧ ∃ q, w' = w.drewN q :=
  (rcheck A n c k xs w h).mono (by rintro e w' ⟨rfl, rfl⟩; exact ⟨rfl, 0, rfl⟩)
set_option maxHeartbeats 4000000 in
set_option maxRecDepth 100000 in
theorem rcov (i st : Int) (A B D : Option Addr) (n c m d k e : Nat) (nx ot ws : List (List Int)) (w : World) (hx : Lists w A n nx) (ho : Lists w B m ot) (hw : Lists w D k ws) (hk : k ≤ 1048576) :
    Calls Try.prog 24 #[.agg #[.int .i64 i, .int .i64 st, .slice A n c, .slice B m d], .slice D k e] w fun e w' => e = .returned (.tuple #[.int .i64 (covR i st nx ot ws).1, .int .i64 (covR i st nx ot ws).2.1, .int .i64 (covR i st nx ot ws).2.2]) ∧ Below w.heap.size w w' := by
  have hb0 := alloc_below w (.cells #[.int .i64 i, .int .i64 st, .slice A n c, .slice B m d] 24)
  have hB := mealy_box w (.int .i64 i) (.int .i64 st) (.slice A n c) (.slice B m d)
  obtain ⟨R, hR⟩ : ∃ R, R = covR i st nx ot ws := ⟨_, rfl⟩
  rw [← hR]
  unfold covR at hR
  have hn1 := hx.1
  have hn2 := hx.2.1
  by_cases hv : vld i st nx ot = 0
  · rw [if_pos hv] at hR
    have HR := Lib.hid hR
    obtain ⟨i', st', n', rfl, rfl, hM⟩ := vld_zero hv
    have e3 := hM.nxl
    have e4 := hM.otl
    have e5 := ho.1
    obtain rfl : n = n' := by omega
    obtain rfl : n = m := by omega
    have HM := Lib.hid hM
    have hn128 := hM.n2
    clear hR e3 e4 e5 hM
    go_enter Try.func24, Try.ntmps24
    go_wp2_with fail
    refine (rvalid _ _ _ _ _ _ _ _ _ _ _ (hx.below hb0) (ho.below hb0)).mono ?_
    rintro e w1 ⟨rfl, a1⟩
    have hB1 := hB.kept a1 (by simp)
    have b1 := bt hb0 a1
    have hgt : w.heap.size < w1.heap.size := by have := a1.size; simp at this; omega
    obtain ⟨k0, k1, k2, k3, _⟩ := hB1.cells
    have HBX := Lib.hid (fun (W : World) (h : Below w1.heap.size w1 W) => hB1.kept h hgt)
    rw [hv]
    have HB1 := Lib.hid b1
    have hnl := hn1
    clear hB hb0 a1 hB1 b1 hv
    have hwl := hw.1
    go_wp2
    go_loopw [8] (fun v8 wr => ∃ j : Nat, j ≤ k ∧ v8 = .int .i64 j ∧ (∀ m, m < j → chk (ws.getD m []) i' = 0) ∧ ∃ q, wr = w1.drewN q) (fun v8 _ => k - (intOf v8).toNat)
    case atStart => exact ⟨0, Nat.zero_le _, rfl, fun m hm => absurd hm (by omega), 0, rfl⟩
    case round =>
      obtain ⟨j, hj, rfl, hck, hwr⟩ := hrel
      have hbw : Below w1.heap.size w1 wr := rd_below hwr
      obtain ⟨k0, k1, k2, k3, _⟩ := (HBX.out wr hbw).cells
      have HCK := Lib.hid hck
      have HWR := Lib.hid hwr
      have HBW := Lib.hid hbw
      clear hck hwr hbw
      by_cases hlt : j < k
      · obtain ⟨gD, oD, D3, nD, cD, eD, hgD, hdD, hrD⟩ := hw.at_ hlt
        subst eD
        have hdD := ((HB1.out.trans (HBW.out.mono HB1.out.size)).cell (p := ⟨gD, oD + j, none⟩) hgD).trans hdD
        have hrD := (hrD.below HB1.out).below HBW.out
        have HFH := Lib.hid (fstC_hit (i := (i' : Int)) (ws := ws) (j := j) (by omega) HCK.out)
        generalize hU : ws.getD j [] = u at hrD HFH
        have HU := Lib.hid hU
        clear hU hgD
        go_wp2
        go_quiet ((go_at_call 45; exact Calls.quiet_of (rcheckD _ _ _ _ u _ hrD)))
        have HW2 := Lib.hid (drew_more HWR.out nq)
        by_cases hc : chk u i' = 0
        · have HNE := Lib.hid (show ∀ m, m < j + 1 → chk (ws.getD m []) i' = 0 from fun m hm => by
            by_cases h9 : m = j
            · subst h9; rw [HU.out]; exact hc
            · exact HCK.out m (by omega))
          rw [hc]
          clear hc k0 k1 k2 k3 hdD
          go_wp2
          go_roundw
          case rel => exact ⟨j + 1, by omega, by go_num, HNE.out, HW2.out⟩
          case measure => simp [intOf]; omega
        · have hR2 := HR.out
          rw [HFH.out hc, if_neg hc] at hR2
          have HR2 := Lib.hid hR2
          have hne : (chk u i' != 0) = true := by simpa using hc
          generalize chk u i' = E at hne HR2
          clear hc hR2 k0 k1 k2 k3 hdD
          go_wp2
          go_ret3
          rw [HR2.out]
          exact ⟨rfl, below_drewN (HB1.out.trans (HBW.out.mono HB1.out.size)) _⟩
      · obtain rfl : k = j := by omega
        have hall : ∀ u, u ∈ ws → chk u i' = 0 := fun u hu => by
          obtain ⟨m, hm, rfl⟩ := List.mem_iff_getElem.1 hu
          have := HCK.out m (by omega)
          rwa [List.getD_eq_getElem?_getD, List.getElem?_eq_getElem hm] at this
        have hR2 := HR.out
        rw [if_pos (fstC_zero hall), Int.toNat_natCast] at hR2
        have HR2 := Lib.hid hR2
        have HALL := Lib.hid hall
        have hst := HM.out.st
        have hi64 := HM.out.i2
        clear hR2 hall
        go_wp2_with fail
        refine (rnone i' st' A B n c n d nx wr ((hx.below HB1.out).below HBW.out) hi64 hn128).mono ?_
        rintro r w2 ⟨AT, cT, gs, rfl, hT, b2⟩
        have HT0 := Lib.hid (hT.lower HBW.out.size)
        have HB2 := Lib.hid (bt HBW.out b2)
        clear hT b2 k0 k1 k2 k3
        go_wp2
        go_loopw [11, 12, 13] (fun v11 v12 v13 wr => ∃ (j : Nat) (vl : List Int) (T : Tk) (A11 : Option Addr) (c11 : Nat), j ≤ k ∧ v13 = .int .i64 j ∧ v12 = .int .i64 T.nt ∧ v11 = .slice A11 vl.length c11 ∧ T = covT nx st' (Tk.zero 0) (ws.take j) ∧ Vis vl T ∧ Owned wr w1.heap.size (.slice A11 vl.length c11) vl ∧ Tkn wr w1.heap.size (.slice AT n cT) n i' gs T.tk ∧ Below w1.heap.size w1 wr ∧ T.ns ≤ j * 1025 ∧ T.nt ≤ j * 1024) (fun _ _ v13 _ => k - (intOf v13).toNat)
        case atStart => exact ⟨0, [], Tk.zero 0, none, 0, Nat.zero_le _, rfl, rfl, rfl, rfl, ⟨rfl, fun p => by simp [Tk.zero]⟩, World.ownsRow_nil _ _ _ _, HT0.out, HB2.out, by simp [Tk.zero], by simp [Tk.zero]⟩
        case round =>
          obtain ⟨j, vl, T, A11, c11, hj, rfl, rfl, rfl, hTE, hV, hO, hT, hb, hns, hnt⟩ := hrel
          have HTE := Lib.hid hTE
          have HV := Lib.hid hV
          have HO := Lib.hid hO
          have HT := Lib.hid hT
          have HB := Lib.hid hb
          have hvl : vl.length ≤ T.ns := Nat.le_of_eq hV.1
          clear hTE hV hO hT hb
          by_cases hlt : j < k
          · obtain ⟨gD, oD, D3, nD, cD, eD, hgD, hdD, hrD⟩ := hw.at_ hlt
            subst eD
            have HDD := Lib.hid (fun (W : World) (h : Below w1.heap.size w1 W) => ((HB1.out.trans (h.mono HB1.out.size)).cell (p := ⟨gD, oD + j, none⟩) hgD).trans hdD)
            have HRD := Lib.hid (fun (W : World) (h : Below w1.heap.size w1 W) => (hrD.below HB1.out).below h)
            have hts := take_snocL (ws := ws) (j := j) (by omega)
            have HNJ := Lib.hid (show covT nx st' (Tk.zero 0) (ws.take (j + 1)) = ((T.to st').vst).fol nx (ws.getD j []) by rw [hts, covT_app, ← HTE.out]; rfl)
            have hcu := HALL.out (ws.getD j []) (by rw [List.getD_eq_getElem?_getD, List.getElem?_eq_getElem (by omega)]; exact List.getElem_mem _)
            generalize ws.getD j [] = u at hrD HRD HNJ hcu
            obtain ⟨_, _, hul, c4⟩ := chk_zero hcu
            have HWD := Lib.hid c4.wd
            obtain ⟨k0, k1, k2, k3, _⟩ := (HBX.out wr HB.out).cells
            clear hdD hgD hts hcu c4
            have hun := hrD.1
            obtain rfl : nD = u.length := hun.symm
            go_wp2
            go_loopw [11, 12, 14, 15] (fun v11 v12 v14 v15 wq => ∃ (x : Nat) (vl2 : List Int) (Q : Tk) (A2 : Option Addr) (c2 : Nat), x ≤ u.length + 1 ∧ v15 = .int .i64 x ∧ v14 = .int .i64 Q.pos ∧ v12 = .int .i64 Q.nt ∧ v11 = .slice A2 vl2.length c2 ∧ ((x ≤ u.length ∧ Q.vst = ((T.to st').vst).fol nx (u.take x)) ∨ (x = u.length + 1 ∧ Q = ((T.to st').vst).fol nx u)) ∧ Vis vl2 Q ∧ Owned wq w1.heap.size (.slice A2 vl2.length c2) vl2 ∧ Tkn wq w1.heap.size (.slice AT n cT) n i' gs Q.tk ∧ Below w1.heap.size w1 wq ∧ Q.ns ≤ j * 1025 + x ∧ Q.nt ≤ j * 1024 + x ∧ Q.pos < n) (fun _ _ _ v15 _ => u.length + 1 - (intOf v15).toNat)
            case atStart => exact ⟨0, vl, T.to st', A11, c11, Nat.zero_le _, rfl, rfl, rfl, rfl, .inl ⟨Nat.zero_le _, rfl⟩, HV.out, HO.out, HT.out, HB.out, hns, hnt, hst⟩
            case round =>
              obtain ⟨x, vl2, Q, A2, c2, hxl, rfl, rfl, rfl, rfl, hQ, hV, hO, hT, hb, hns2, hnt2, hpos⟩ := hrel
              have HQ := Lib.hid hQ
              have HV2 := Lib.hid hV
              have HO2 := Lib.hid hO
              have HT2 := Lib.hid hT
              have HB2 := Lib.hid hb
              have hI := hO.ints (by rw [hV.1]; omega)
              have hdD := HDD.out _ hb
              have hsz := hb.size
              have hvl : vl2.length ≤ Q.ns := Nat.le_of_eq hV.1
              have HI := Lib.hid hI
              clear hQ hV hO hT hb hI
              by_cases hxe : x ≤ u.length
              · have HQv := Lib.hid (show Q.vst = ((T.to st').vst).fol nx (u.take x) by
                  rcases HQ.out with ⟨_, h9⟩ | ⟨h9, _⟩
                  · exact h9
                  · omega)
                by_cases hin : (Q.pos : Int) ∈ vl2
                · have HBT := Lib.hid (decide_eq_true hin).symm
                  have HP := Lib.hid (show Q = ((T.to st').vst).fol nx (u.take x) by rw [← HQv.out, HV2.out.vst_in hin])
                  clear hin
                  go_wp2_with fail
                  refine (rhas10 _ _ _ _ _ true _ HI.out HBT.out).mono ?_
                  rintro r w5 ⟨rfl, q5, rfl⟩
                  have bq := below_drewN (Below.refl wr.heap.size wr) q5
                  have HV5 := HV2
                  have HO5 := Lib.hid (HO2.out.kept bq)
                  have HT5 := Lib.hid (HT2.out.kept bq)
                  have HB5 := Lib.hid (HB2.out.trans (bq.mono hsz))
                  have HPOS := Lib.hid hpos
                  clear HBT bq hdD
                  generalize wr.drewN q5 = wW at HO5 HT5 HB5 ⊢
                  by_cases hlx : x < u.length
                  · have hnx := Tk.fol_take nx ((T.to st').vst) u hlx
                    obtain ⟨gU, oU, eU, hgU, hcU⟩ := (HRD.out _ HB5.out).at_ hlx
                    subst eU
                    have hmem := HWD.out (u.getD x 0) (by rw [List.getD_eq_getElem?_getD, List.getElem?_eq_getElem hlx]; exact List.getElem_mem _)
                    obtain ⟨y', hy⟩ : ∃ y' : Nat, u.getD x 0 = y' := ⟨(u.getD x 0).toNat, by omega⟩
                    rw [hy] at hcU hmem hnx
                    rw [Int.toNat_natCast, ← HP.out] at hnx
                    have HNX := Lib.hid hnx
                    have hyi : y' < i' := by omega
                    have hps := HPOS.out
                    obtain ⟨gT, cT', eT, xT⟩ := HT5.out.at_ hps
                    cases eT
                    obtain ⟨xv, fv⟩ := HT5.out.get hps hyi
                    obtain ⟨gA, oA, A1, nA, cA, eA, hgA, hdA, hrA⟩ := hx.at_ hps
                    have m1 := hrA.1
                    have w1' := (HM.out.row _ hps).1
                    obtain rfl : i' = nA := by omega
                    subst eA
                    obtain ⟨hA2, iA2, eA2, lA, vA⟩ := hrA.at_ hyi
                    subst eA2
                    have rA : (nx.getD Q.pos []).getD y' 0 = ((nN nx Q.pos y' : Nat) : Int) := HM.out.nN_eq hps hyi
                    rw [rA] at vA
                    have HCA := Lib.hid (show ∀ W, Below w1.heap.size w1 W → W.cell? ⟨gA, oA + Q.pos, none⟩ = some (.slice (some ⟨hA2, iA2, none⟩) i' cA) ∧ W.cell? ⟨hA2, iA2 + y', none⟩ = some (.int .i64 ((nN nx Q.pos y' : Nat) : Int)) from fun W h => by
                      have h9 := HB1.out.trans (h.mono HB1.out.size)
                      exact ⟨(h9.cell (p := ⟨gA, oA + Q.pos, none⟩) hgA).trans hdA, (h9.cell (p := ⟨hA2, iA2 + y', none⟩) lA).trans vA⟩)
                    clear hdA vA
                    obtain ⟨hdA, vA⟩ := HCA.out _ HB5.out
                    obtain ⟨k0, k1, k2, k3, _⟩ := (HBX.out _ HB5.out).cells
                    have hdD := HDD.out _ HB5.out
                    have hq := HM.out.nN_lt hps hyi
                    have HVG := Lib.hid (HV5.out.go y' (nN nx Q.pos y'))
                    have HQV := Lib.hid (show ((Q.mrk y').to (nN nx Q.pos y')).vst = ((T.to st').vst).fol nx (u.take (x + 1)) by rw [HNX.out]; rfl)
                    have hmn := Tk.mrk_n Q y'
                    have hqn : ((Q.mrk y').to (nN nx Q.pos y')).ns = (Q.mrk y').ns ∧ ((Q.mrk y').to (nN nx Q.pos y')).nt = (Q.mrk y').nt := ⟨rfl, rfl⟩
                    have HNS := Lib.hid (show ((Q.mrk y').to (nN nx Q.pos y')).ns ≤ j * 1025 + (x + 1) ∧ ((Q.mrk y').to (nN nx Q.pos y')).nt ≤ j * 1024 + (x + 1) by omega)
                    have HQN := Lib.hid hqn
                    have HXL := Lib.hid (show x + 1 ≤ u.length + 1 ∧ x + 1 ≤ u.length by omega)
                    clear hmem hy hnx hgU hgA lA m1 w1' hrA rA hmn hqn
                    cases htk : Q.tk Q.pos y' with
                    | true =>
                      rw [htk] at xv
                      have hmk : Q.mrk y' = Q := by unfold Tk.mrk; rw [if_pos htk]
                      have HMK := Lib.hid hmk
                      clear htk hmk
                      go_wp2
                      clear k0 k1 k2 k3 hdA vA hcU hdD xT xv fv
                      go_roundw
                      case rel => exact ⟨x + 1, vl2, (Q.mrk y').to (nN nx Q.pos y'), A2, c2, HXL.out.1, by go_num, rfl, by rw [HQN.out.2, HMK.out], rfl, .inl ⟨HXL.out.2, HQV.out⟩, HVG.out, HO5.out, by show Tkn _ _ _ _ _ _ (Q.mrk y').tk; rw [HMK.out]; exact HT5.out, HB5.out, HNS.out.1, HNS.out.2, hq⟩
                      case measure => have := HXL.out; simp [intOf]; omega
                    | false =>
                      rw [htk] at xv
                      have hmk : (Q.mrk y').nt = Q.nt + 1 := by unfold Tk.mrk; rw [htk]; rfl
                      have HMK := Lib.hid hmk
                      have hset := HT5.out.set hps y'
                      rw [show (fun p z => Q.tk p z || (p == Q.pos && z == y')) = (Q.mrk y').tk from (Tk.mrk_tk Q y').symm] at hset
                      have hktS : KeptT 3 wW (wW.setCell ⟨gs Q.pos, y', none⟩ (.bool true)) := KeptT.off (HT5.out.blk _ hps).2 (by decide) _
                      have hbS : Below w1.heap.size wW (wW.setCell ⟨gs Q.pos, y', none⟩ (.bool true)) := (Below.refl _ wW).setCell (p := ⟨gs Q.pos, y', none⟩) (HT5.out.blk _ hps).1 (.bool true)
                      have HSET := Lib.hid hset
                      have HO6 := Lib.hid (HO5.out.keptT hktS)
                      have HB6 := Lib.hid (HB5.out.trans hbS)
                      obtain ⟨e0, e1, e2, e3, _⟩ := (HBX.out _ HB6.out).cells
                      obtain ⟨ehdA, evA⟩ := HCA.out _ HB6.out
                      have hnt3 : (Q.nt : Int) + 1 < 9223372036854775808 := by omega
                      clear htk hmk hset hktS hbS
                      go_wp2
                      clear k0 k1 k2 k3 hdA vA hcU hdD xT xv fv e0 e1 e2 e3 ehdA evA
                      go_roundw
                      case rel => exact ⟨x + 1, vl2, (Q.mrk y').to (nN nx Q.pos y'), A2, c2, HXL.out.1, by go_num, rfl, by rw [HQN.out.2, HMK.out]; rfl, rfl, .inl ⟨HXL.out.2, HQV.out⟩, HVG.out, HO6.out, HSET.out, HB6.out, HNS.out.1, HNS.out.2, hq⟩
                      case measure => have := HXL.out; simp [intOf]; omega
                  · have hxu : x = u.length := by omega
                    have HXU := Lib.hid hxu
                    have HPL := Lib.hid (show Q = ((T.to st').vst).fol nx u by rw [HP.out, hxu, List.take_of_length_le (Nat.le_refl _)])
                    have hdD := HDD.out _ HB5.out
                    have HNS := Lib.hid (show Q.ns ≤ j * 1025 + (x + 1) ∧ Q.nt ≤ j * 1024 + (x + 1) by omega)
                    clear hxu
                    go_wp2
                    clear hdD
                    go_roundw
                    case rel => exact ⟨x + 1, vl2, Q, A2, c2, by have := HXU.out; omega, by go_num, rfl, rfl, rfl, .inr ⟨by rw [HXU.out], HPL.out⟩, HV5.out, HO5.out, HT5.out, HB5.out, HNS.out.1, HNS.out.2, HPOS.out⟩
                    case measure => simp [intOf]; omega
                · have HBT := Lib.hid (decide_eq_false hin).symm
                  have hvn := HV2.out.vst_out hin
                  obtain ⟨P, hPP⟩ : ∃ P, P = Q.vst := ⟨_, rfl⟩
                  obtain ⟨vl3, hvl3⟩ : ∃ vl3, vl3 = vl2 ++ [(Q.pos : Int)] := ⟨_, rfl⟩
                  have hp1 : Q.pos = P.pos := by rw [hPP, Tk.vst_pos]
                  have hp2 : Q.nt = P.nt := by rw [hPP, (Tk.vst_n Q).2.2]
                  have hp3 : Q.tk = P.tk := by rw [hPP, Tk.vst_tk]
                  have hp4 := (Tk.vst_n Q).2.1
                  rw [← hPP] at hvn hp4
                  rw [← hvl3] at hvn
                  have HV5 := Lib.hid hvn
                  have HP := Lib.hid (show P = ((T.to st').vst).fol nx (u.take x) by rw [← HQv.out, hPP])
                  have hl3 : vl2.length + 1 = vl3.length := by rw [hvl3, List.length_append]; rfl
                  have HL3 := Lib.hid hl3
                  have HP1 := Lib.hid hp1
                  have HP2 := Lib.hid hp2
                  have HP3 := Lib.hid hp3
                  have HVL3 := Lib.hid hvl3
                  have hnsP : Q.ns ≤ P.ns := by rw [hPP]; exact (Tk.vst_n Q).1
                  clear hin hvn hPP hp1 hp2 hp3 hl3 hvl3
                  have HNSP := Lib.hid (show P.ns ≤ j * 1025 + x + 1 by omega)
                  go_wp2_with fail
                  refine (rhas10 _ _ _ _ _ false _ HI.out HBT.out).mono ?_
                  rintro r w5 ⟨rfl, q5, rfl⟩
                  have bq := below_drewN (Below.refl wr.heap.size wr) q5
                  have hO4 := HO2.out.kept bq
                  have hT4 := HT2.out.kept bq
                  have hB4 := HB2.out.trans (bq.mono hsz)
                  clear HBT bq hdD
                  generalize wr.drewN q5 = w5 at hO4 hT4 hB4 ⊢
                  obtain ⟨A3v, c3v, wW, hr, hO6, hb6, hk6, _, _⟩ := run_append_oneB hO4 (Q.pos : Int) hB4.size (by omega)
                  rw [HL3.out] at hr hO6
                  rw [← HVL3.out] at hO6
                  have hT6 := hT4.keptT (hk6 _ (by decide)) (hk6 _ (by decide))
                  rw [HP3.out] at hT6
                  rw [HP1.out] at hr hpos
                  rw [HP1.out, HP2.out]
                  have HO5 := Lib.hid hO6
                  have HT5 := Lib.hid hT6
                  have HB5 := Lib.hid (hB4.trans hb6)
                  have HPOS := Lib.hid hpos
                  have hns2 : P.ns ≤ j * 1025 + (x + 1) := by have := HNSP.out; omega
                  have hnt2 : P.nt ≤ j * 1024 + x := by have := HP2.out; omega
                  clear hO4 hT4 hB4 hO6 hT6 hb6 hk6 hpos
                  by_cases hlx : x < u.length
                  · have hnx := Tk.fol_take nx ((T.to st').vst) u hlx
                    obtain ⟨gU, oU, eU, hgU, hcU⟩ := (HRD.out _ HB5.out).at_ hlx
                    subst eU
                    have hmem := HWD.out (u.getD x 0) (by rw [List.getD_eq_getElem?_getD, List.getElem?_eq_getElem hlx]; exact List.getElem_mem _)
                    obtain ⟨y', hy⟩ : ∃ y' : Nat, u.getD x 0 = y' := ⟨(u.getD x 0).toNat, by omega⟩
                    rw [hy] at hcU hmem hnx
                    rw [Int.toNat_natCast, ← HP.out] at hnx
                    have HNX := Lib.hid hnx
                    have hyi : y' < i' := by omega
                    have hps := HPOS.out
                    obtain ⟨gT, cT', eT, xT⟩ := HT5.out.at_ hps
                    cases eT
                    obtain ⟨xv, fv⟩ := HT5.out.get hps hyi
                    obtain ⟨gA, oA, A1, nA, cA, eA, hgA, hdA, hrA⟩ := hx.at_ hps
                    have m1 := hrA.1
                    have w1' := (HM.out.row _ hps).1
                    obtain rfl : i' = nA := by omega
                    subst eA
                    obtain ⟨hA2, iA2, eA2, lA, vA⟩ := hrA.at_ hyi
                    subst eA2
                    have rA : (nx.getD P.pos []).getD y' 0 = ((nN nx P.pos y' : Nat) : Int) := HM.out.nN_eq hps hyi
                    rw [rA] at vA
                    have HCA := Lib.hid (show ∀ W, Below w1.heap.size w1 W → W.cell? ⟨gA, oA + P.pos, none⟩ = some (.slice (some ⟨hA2, iA2, none⟩) i' cA) ∧ W.cell? ⟨hA2, iA2 + y', none⟩ = some (.int .i64 ((nN nx P.pos y' : Nat) : Int)) from fun W h => by
                      have h9 := HB1.out.trans (h.mono HB1.out.size)
                      exact ⟨(h9.cell (p := ⟨gA, oA + P.pos, none⟩) hgA).trans hdA, (h9.cell (p := ⟨hA2, iA2 + y', none⟩) lA).trans vA⟩)
                    clear hdA vA
                    obtain ⟨hdA, vA⟩ := HCA.out _ HB5.out
                    obtain ⟨k0, k1, k2, k3, _⟩ := (HBX.out _ HB5.out).cells
                    have hdD := HDD.out _ HB5.out
                    have hq := HM.out.nN_lt hps hyi
                    have HVG := Lib.hid (HV5.out.go y' (nN nx P.pos y'))
                    have HQV := Lib.hid (show ((P.mrk y').to (nN nx P.pos y')).vst = ((T.to st').vst).fol nx (u.take (x + 1)) by rw [HNX.out]; rfl)
                    have hmn := Tk.mrk_n P y'
                    have hqn : ((P.mrk y').to (nN nx P.pos y')).ns = (P.mrk y').ns ∧ ((P.mrk y').to (nN nx P.pos y')).nt = (P.mrk y').nt := ⟨rfl, rfl⟩
                    have HNS := Lib.hid (show ((P.mrk y').to (nN nx P.pos y')).ns ≤ j * 1025 + (x + 1) ∧ ((P.mrk y').to (nN nx P.pos y')).nt ≤ j * 1024 + (x + 1) by omega)
                    have HQN := Lib.hid hqn
                    have HXL := Lib.hid (show x + 1 ≤ u.length + 1 ∧ x + 1 ≤ u.length by omega)
                    clear hmem hy hnx hgU hgA lA m1 w1' hrA rA hmn hqn
                    cases htk : P.tk P.pos y' with
                    | true =>
                      rw [htk] at xv
                      have hmk : P.mrk y' = P := by unfold Tk.mrk; rw [if_pos htk]
                      have HMK := Lib.hid hmk
                      clear htk hmk
                      go_wp2_with (at_builtin; refine Lib.wpList_append_run _ rfl _ _ _ _ rfl _ _ rfl rfl _ _ hr ?_)
                      clear hr
                      clear k0 k1 k2 k3 hdA vA hcU hdD xT xv fv
                      go_roundw
                      case rel => exact ⟨x + 1, vl3, (P.mrk y').to (nN nx P.pos y'), A3v, c3v, HXL.out.1, by go_num, rfl, by rw [HQN.out.2, HMK.out], rfl, .inl ⟨HXL.out.2, HQV.out⟩, HVG.out, HO5.out, by show Tkn _ _ _ _ _ _ (P.mrk y').tk; rw [HMK.out]; exact HT5.out, HB5.out, HNS.out.1, HNS.out.2, hq⟩
                      case measure => have := HXL.out; simp [intOf]; omega
                    | false =>
                      rw [htk] at xv
                      have hmk : (P.mrk y').nt = P.nt + 1 := by unfold Tk.mrk; rw [htk]; rfl
                      have HMK := Lib.hid hmk
                      have hset := HT5.out.set hps y'
                      rw [show (fun p z => P.tk p z || (p == P.pos && z == y')) = (P.mrk y').tk from (Tk.mrk_tk P y').symm] at hset
                      have hktS : KeptT 3 wW (wW.setCell ⟨gs P.pos, y', none⟩ (.bool true)) := KeptT.off (HT5.out.blk _ hps).2 (by decide) _
                      have hbS : Below w1.heap.size wW (wW.setCell ⟨gs P.pos, y', none⟩ (.bool true)) := (Below.refl _ wW).setCell (p := ⟨gs P.pos, y', none⟩) (HT5.out.blk _ hps).1 (.bool true)
                      have HSET := Lib.hid hset
                      have HO6 := Lib.hid (HO5.out.keptT hktS)
                      have HB6 := Lib.hid (HB5.out.trans hbS)
                      obtain ⟨e0, e1, e2, e3, _⟩ := (HBX.out _ HB6.out).cells
                      obtain ⟨ehdA, evA⟩ := HCA.out _ HB6.out
                      have hnt3 : (P.nt : Int) + 1 < 9223372036854775808 := by omega
                      clear htk hmk hset hktS hbS
                      go_wp2_with (at_builtin; refine Lib.wpList_append_run _ rfl _ _ _ _ rfl _ _ rfl rfl _ _ hr ?_)
                      clear hr
                      clear k0 k1 k2 k3 hdA vA hcU hdD xT xv fv e0 e1 e2 e3 ehdA evA
                      go_roundw
                      case rel => exact ⟨x + 1, vl3, (P.mrk y').to (nN nx P.pos y'), A3v, c3v, HXL.out.1, by go_num, rfl, by rw [HQN.out.2, HMK.out]; rfl, rfl, .inl ⟨HXL.out.2, HQV.out⟩, HVG.out, HO6.out, HSET.out, HB6.out, HNS.out.1, HNS.out.2, hq⟩
                      case measure => have := HXL.out; simp [intOf]; omega
                  · have hxu : x = u.length := by omega
                    have HXU := Lib.hid hxu
                    have HPL := Lib.hid (show P = ((T.to st').vst).fol nx u by rw [HP.out, hxu, List.take_of_length_le (Nat.le_refl _)])
                    have hdD := HDD.out _ HB5.out
                    have HNS := Lib.hid (show P.ns ≤ j * 1025 + (x + 1) ∧ P.nt ≤ j * 1024 + (x + 1) by omega)
                    clear hxu
                    go_wp2_with (at_builtin; refine Lib.wpList_append_run _ rfl _ _ _ _ rfl _ _ rfl rfl _ _ hr ?_)
                    clear hr
                    clear hdD
                    go_roundw
                    case rel => exact ⟨x + 1, vl3, P, A3v, c3v, by have := HXU.out; omega, by go_num, rfl, rfl, rfl, .inr ⟨by rw [HXU.out], HPL.out⟩, HV5.out, HO5.out, HT5.out, HB5.out, HNS.out.1, HNS.out.2, HPOS.out⟩
                    case measure => simp [intOf]; omega
              · have hQ3 : Q = ((T.to st').vst).fol nx u := by
                  rcases HQ.out with ⟨h9, _⟩ | ⟨_, h9⟩
                  · omega
                  · exact h9
                have HQ3 := Lib.hid (show Q = covT nx st' (Tk.zero 0) (ws.take (j + 1)) from hQ3.trans HNJ.out.symm)
                have hxx : x = u.length + 1 := by omega
                have hnsj : Q.ns ≤ (j + 1) * 1025 := by
                  have h1 := Tk.fol_n nx u ((T.to st').vst)
                  have h2 := Tk.vst_n (T.to st')
                  have h3 : (T.to st').ns = T.ns := rfl
                  rw [hQ3]; omega
                have hntj : Q.nt ≤ (j + 1) * 1024 := by
                  have h1 := Tk.fol_n nx u ((T.to st').vst)
                  have h2 := Tk.vst_n (T.to st')
                  have h3 : (T.to st').nt = T.nt := rfl
                  rw [hQ3]; omega
                clear hQ3 hxx
                go_wp2
                go_roundw
                case rel => exact ⟨j + 1, vl2, Q, A2, c2, by omega, by go_num, rfl, rfl, HQ3.out, HV2.out, HO2.out, HT2.out, HB2.out, hnsj, hntj⟩
                case measure => simp [intOf]; omega
          · obtain rfl : k = j := by omega
            have HT9 := Lib.hid (show T = covT nx st' (Tk.zero 0) ws by rw [HTE.out, List.take_of_length_le (by omega)])
            have HL9 := Lib.hid HV.out.1
            have HBE := Lib.hid (HB1.out.trans (HB.out.mono HB1.out.size))
            go_wp2
            go_ret3
            rw [HR2.out, ← HT9.out, HL9.out]
            exact ⟨rfl, HBE.out⟩
  · rw [if_neg hv] at hR
    have HR := Lib.hid hR
    obtain ⟨E, hE⟩ : ∃ E, E = vld i st nx ot := ⟨_, rfl⟩
    have HE := Lib.hid hE
    rw [← hE] at hv
    clear hR hE hB
    have hne : (E != 0) = true := by simpa using hv
    go_enter Try.func24, Try.ntmps24
    go_wp2_with fail
    refine (rvalid _ _ _ _ _ _ _ _ _ _ _ (hx.below hb0) (ho.below hb0)).mono ?_
    rintro e w1 ⟨rfl, b1⟩
    rw [← HE.out]
    clear hv
    go_wp2
    go_ret3
    rw [HR.out, ← HE.out]
    exact ⟨rfl, bt hb0 b1⟩
end Go.Proofs.Ytedcdpmflcegbaa
end
