/- A decoder: frame. -/
import Derived.Test.YtihahljpfekmbaaSealm
import Derived.Test.YtihahljpfekmbaaSamey
import Derived.Test.YtihahljpfekmbaaTakw
namespace Go.Proofs.Ytihahljpfekmbaa
open Go.RowKit

/-- What Open returns: kind, content, size, error. -/
def opE (k : Int) : Nat × List Nat × Nat × Int := (0, [], 0, k)
def opR (bs : List Nat) : Nat × List Nat × Nat × Int :=
  if bs.length = 0 then opE 4
  else if ¬ erA bs 1 = 0 then opE (erA bs 1)
  else if nuA bs 1 < 0 then opE 5
  else if bs.length - (1 + szA bs 1) < (nuA bs 1).toNat then opE 4
  else if bs.length - (1 + szA bs 1 + (nuA bs 1).toNat) < 4 then opE 4
  else if (bs.drop (1 + szA bs 1 + (nuA bs 1).toNat)).take 4 = four (crcZ (bs.take (1 + szA bs 1 + (nuA bs 1).toNat))) then
    (bs.getD 0 0, (bs.drop (1 + szA bs 1)).take (nuA bs 1).toNat, 1 + szA bs 1 + (nuA bs 1).toNat + 4, 0)
  else opE 6
theorem opR_nil {bs : List Nat} (h : bs.length = 0) : opR bs = opE 4 := by unfold opR; rw [if_pos h]
theorem opR_err {bs : List Nat} (h : ¬ bs.length = 0) (h1 : ¬ erA bs 1 = 0) : opR bs = opE (erA bs 1) := by unfold opR; rw [if_neg h, if_pos h1]
theorem opR_neg {bs : List Nat} (h : ¬ bs.length = 0) (h1 : erA bs 1 = 0) (h2 : nuA bs 1 < 0) : opR bs = opE 5 := by unfold opR; rw [if_neg h, if_neg (fun e => e h1), if_pos h2]
theorem opR_cut {bs : List Nat} {m : Nat} (h : ¬ bs.length = 0) (h1 : erA bs 1 = 0) (h2 : nuA bs 1 = m) (h3 : bs.length - (1 + szA bs 1) < m) : opR bs = opE 4 := by
  unfold opR; rw [if_neg h, if_neg (fun e => e h1), if_neg (by omega), h2, if_pos (by simpa using h3)]
theorem opR_cut2 {bs : List Nat} {m : Nat} (h : ¬ bs.length = 0) (h1 : erA bs 1 = 0) (h2 : nuA bs 1 = m) (h3 : ¬ bs.length - (1 + szA bs 1) < m) (h4 : bs.length - (1 + szA bs 1 + m) < 4) : opR bs = opE 4 := by
  unfold opR; rw [if_neg h, if_neg (fun e => e h1), if_neg (by omega), h2, Int.toNat_natCast, if_neg h3, if_pos h4]
theorem opR_sum {bs : List Nat} {m : Nat} (h : ¬ bs.length = 0) (h1 : erA bs 1 = 0) (h2 : nuA bs 1 = m) (h3 : ¬ bs.length - (1 + szA bs 1) < m) (h4 : ¬ bs.length - (1 + szA bs 1 + m) < 4) (h5 : ¬ (bs.drop (1 + szA bs 1 + m)).take 4 = four (crcZ (bs.take (1 + szA bs 1 + m)))) : opR bs = opE 6 := by
  unfold opR; rw [if_neg h, if_neg (fun e => e h1), if_neg (by omega), h2, Int.toNat_natCast, if_neg h3, if_neg h4, if_neg h5]
theorem opR_ok {bs : List Nat} {m : Nat} (h : ¬ bs.length = 0) (h1 : erA bs 1 = 0) (h2 : nuA bs 1 = m) (h3 : ¬ bs.length - (1 + szA bs 1) < m) (h4 : ¬ bs.length - (1 + szA bs 1 + m) < 4) (h5 : (bs.drop (1 + szA bs 1 + m)).take 4 = four (crcZ (bs.take (1 + szA bs 1 + m)))) :
    opR bs = (bs.getD 0 0, (bs.drop (1 + szA bs 1)).take m, 1 + szA bs 1 + m + 4, 0) := by
  unfold opR; rw [if_neg h, if_neg (fun e => e h1), if_neg (by omega), h2, Int.toNat_natCast, if_neg h3, if_neg h4, if_pos h5]

theorem run_midy (A : Option Addr) (n c q : Nat) (hq : q ≤ c) (w : World) : (Instr.slice 22 (.slice A n c) (some (.int .i64 0)) (some (.int .i64 q)) none).run Try.prog w = .ok (.slice (rst A c 0) q c) w := by
  obtain ⟨i, hi, hz0, hz1, hz2⟩ := info_parts infoy
  have he : Try.prog.elem 22 = 5 := by kernel_rfl
  rw [run_slice_lh (P := Try.prog) w 22 A n c (by rw [he]; exact Try.underlying22) .i64 .i64 0 q (by omega) (by omega) (by omega), he]
  simp [sizeOf, typeInfo, hi, sliced, hz1, rst]

/-- What frame leaves, by its result. -/
def FramePost (w : World) (g : Nat) (A : Option Addr) (n c : Nat) (V : Nat × List Nat × Nat × Int) (e : Ending) (w' : World) : Prop :=
  (V.2.2.2 = 0 → ∃ A' c', e = .returned (.tuple #[.int .i64 V.1, .slice A' V.2.1.length c']) ∧ OwnedY w' w.heap.size (.slice A' V.2.1.length c') V.2.1 ∧ Dec w' g A n c V.2.2.1) ∧ (¬ V.2.2.2 = 0 → e = pan V.2.2.2) ∧ w.grownBy w' (some g)
theorem FramePost.bad {w w' : World} {g n c : Nat} {A : Option Addr} {k : Int} (hk : ¬ k = 0) (h : w.grownBy w' (some g)) : FramePost w g A n c (opE k) (pan k) w' := ⟨fun e => absurd e hk, fun _ => rfl, h⟩

set_option maxHeartbeats 2000000 in
set_option maxRecDepth 100000 in
theorem dframe {W : World} (g : Nat) (A : Option Addr) (n c : Nat) (bs : List Nat) (w : World) (h : Byts W A n bs) (hb : Below W.heap.size W w) (hg : W.heap.size ≤ g) (hD : Dec w g A n c 0) (hc : n ≤ c) (hn : n ≤ 1000000) :
    Calls Try.prog 73 #[.pointer (some ⟨g, 0, none⟩)] w (FramePost w g A n c (opR bs)) := by
  have L := Lib.hid h.1
  obtain ⟨c0, c1, f1⟩ := hD.cells
  obtain ⟨V, hV⟩ : ∃ V, V = opR bs := ⟨_, rfl⟩
  rw [← hV]
  have HX := Lib.hid hV
  clear hV
  by_cases h0 : n = 0
  · have HV := Lib.hid (HX.out.trans (opR_nil (bs := bs) (by rw [L.out]; exact h0)))
    have HT := Lib.hid (ptake_bad g A n c 0 1 w hD (Nat.zero_le _) (by omega))
    clear hD
    go_enter Try.func73, Try.ntmps73
    go_wp2_with fail
    refine HT.out.mono ?_
    rintro e w1 ⟨rfl, q, rfl⟩
    exact ⟨rfl, by rw [HV.out]; exact FramePost.bad (by decide) (only_drewN (World.grownBy.refl _ _) _)⟩
  · have hne := Lib.hid (show ¬ bs.length = 0 by rw [L.out]; exact h0)
    have HT := Lib.hid (ptake g A n c 0 1 w hD (Nat.zero_le _) hc (by omega) (by omega))
    have hD1 := Lib.hid (fun q => (hD.set (0 + 1)).drew q)
    have hG1 := Lib.hid (fun q => only_drewN (only_setCell (World.grownBy.refl w (some g)) 1 (.int .i64 ((0 + 1 : Nat) : Int))) q)
    have hy := h.tail (p := 0) (Nat.zero_le _) hc
    rw [List.drop_zero, Nat.sub_zero] at hy
    obtain ⟨b0, o0, e0, hbl, hc0, hk256⟩ := hy.at_ (k := 0) (by omega)
    have e0 : rst A c 0 = some ⟨b0, o0, none⟩ := e0
    have HM := Lib.hid (fun q (hq : q ≤ c) W => run_midy A n c q hq W)
    have HY := Lib.hid (show Byts W (rst A c 0) n bs from hy)
    rw [e0] at HT HM HY
    clear hy e0
    go_enter Try.func73, Try.ntmps73
    go_wp2_with fail
    refine HT.out.mono ?_
    rintro e w1 ⟨rfl, q1, rfl⟩
    have d1 : Dec ((w.setCell ⟨g, 1, none⟩ (.int .i64 ((0 + 1 : Nat) : Int))).drewN q1) g A n c 1 := hD1.out q1
    have g1 := hG1.out q1
    have HD := Lib.hid hD
    clear hD1 hG1 HT hD c0 c1 f1
    generalize (w.setCell ⟨g, 1, none⟩ (.int .i64 ((0 + 1 : Nat) : Int))).drewN q1 = w1 at d1 g1 ⊢
    have bb1 := below_only hb hg g1
    have hcell := (bb1.cell hbl).trans hc0
    rw [Nat.add_zero] at hcell
    by_cases he : erA bs 1 = 0
    · by_cases hneg : nuA bs 1 < 0
      · have HV := Lib.hid (HX.out.trans (opR_neg hne.out he hneg))
        have HL := Lib.hid (dlength_bad g A n c 1 bs w1 h bb1 hg d1 (by omega) hc 5 (.inr ⟨he, hneg, rfl⟩))
        clear he hneg
        go_wp2_with fail
        refine HL.out.mono ?_
        rintro e w2 ⟨rfl, g2⟩
        exact ⟨rfl, by rw [HV.out]; exact FramePost.bad (by decide) (only_trans g1 g2)⟩
      · obtain ⟨m, hm⟩ : ∃ m : Nat, nuA bs 1 = m := ⟨(nuA bs 1).toNat, by omega⟩
        have hsz := szA_bd (bs := bs) (u := 1) (by rw [L.out]; omega) he
        rw [L.out] at hsz
        have HL := Lib.hid (dlength g A n c 1 bs w1 h bb1 hg d1 (by omega) hc he (by omega))
        have V1 := opR_cut (m := m) hne.out he hm
        have V2 := opR_cut2 (m := m) hne.out he hm
        have V3 := opR_sum (m := m) hne.out he hm
        have V4 := opR_ok (m := m) hne.out he hm
        rw [hm] at HL
        have hD2 := Lib.hid (fun q => (d1.set (1 + szA bs 1)).drew q)
        have hG2 := Lib.hid (fun q => only_drewN (only_setCell g1 1 (.int .i64 ((1 + szA bs 1 : Nat) : Int))) q)
        rw [L.out, ← HX.out] at V1 V2 V3 V4
        generalize bs.getD 0 0 = kd at V4 hcell hk256 hc0
        have V1 := Lib.hid V1
        have V2 := Lib.hid V2
        have V3 := Lib.hid V3
        have V4 := Lib.hid V4
        generalize 1 + szA bs 1 = u1 at hsz HL V1 V2 V3 V4 hD2 hG2
        have D1 := Lib.hid d1
        clear he hneg hm d1
        go_wp2_with fail
        refine HL.out.mono ?_
        rintro e w2 ⟨rfl, q2, rfl⟩
        have d2 := hD2.out q2
        have g2 := hG2.out q2
        clear hD2 hG2 HL D1
        generalize (w1.setCell ⟨g, 1, none⟩ (.int .i64 (u1 : Int))).drewN q2 = w2 at d2 g2 ⊢
        have bb2 := below_only hb hg g2
        by_cases hcut : n - u1 < m
        · have HV := Lib.hid (V1.out hcut)
          have HT := Lib.hid (ptake_bad g A n c u1 m w2 d2 hsz.2 (by omega))
          rw [HV.out]
          clear V1 V2 V3 V4 d2
          go_wp2_with fail
          refine HT.out.mono ?_
          rintro e w3 ⟨rfl, q3, rfl⟩
          exact ⟨rfl, by rw [HV.out]; exact FramePost.bad (by decide) (only_drewN g2 _)⟩
        · have HT := Lib.hid (ptake g A n c u1 m w2 d2 hsz.2 hc (by omega) (by omega))
          have hD3 := Lib.hid (fun q => (d2.set (u1 + m)).drew q)
          have hG3 := Lib.hid (fun q => only_drewN (only_setCell g2 1 (.int .i64 ((u1 + m : Nat) : Int))) q)
          have hR1 := Lib.hid (show Byts W (rst A c u1) m ((bs.drop u1).take m) from (h.tail hsz.2 hc).head (by omega))
          have hu2 : u1 + m ≤ n := by omega
          have hmn : m ≤ n := by omega
          generalize rst A c u1 = R1 at HT hR1
          have V2 := Lib.hid (V2.out hcut)
          have V3 := Lib.hid (V3.out hcut)
          have V4 := Lib.hid (V4.out hcut)
          generalize u1 + m = u2 at hu2 HT V2 V3 V4 hD3 hG3
          have D2 := Lib.hid d2
          clear hcut d2 V1
          go_wp2_with fail
          refine HT.out.mono ?_
          rintro e w3 ⟨rfl, q3, rfl⟩
          have d3 := hD3.out q3
          have g3 := hG3.out q3
          clear hD3 hG3 HT D2
          generalize (w2.setCell ⟨g, 1, none⟩ (.int .i64 (u2 : Int))).drewN q3 = w3 at d3 g3 ⊢
          obtain ⟨s0, s1, _⟩ := d3.cells
          have hM := HM.out u2 (by omega)
          go_wp2
          go_quiet (fail)
          have d4 := d3.drew nq
          have g4 := only_drewN g3 nq
          generalize w3.drewN nq = w4 at d4 g4 ⊢
          clear d3 g3 s0 s1 hM
          have bb4 := below_only hb hg g4
          by_cases h4 : n - u2 < 4
          · have HV := Lib.hid (V2.out h4)
            have HT := Lib.hid (ptake_bad g A n c u2 4 w4 d4 hu2 (by omega))
            clear V2 V3 V4 d4
            go_wp2_with fail
            refine HT.out.mono ?_
            rintro e w5 ⟨rfl, q5, rfl⟩
            exact ⟨rfl, by rw [HV.out]; exact FramePost.bad (by decide) (only_drewN g4 _)⟩
          · have HT := Lib.hid (ptake g A n c u2 4 w4 d4 hu2 hc (by omega) (by omega))
            have hD5 := Lib.hid (fun q => (d4.set (u2 + 4)).drew q)
            have hG5 := Lib.hid (fun q => only_drewN (only_setCell g4 1 (.int .i64 ((u2 + 4 : Nat) : Int))) q)
            have hR2 := Lib.hid (show Byts W (rst A c u2) 4 ((bs.drop u2).take 4) from (h.tail hu2 hc).head (by omega))
            generalize rst A c u2 = R2 at HT hR2
            have V3 := Lib.hid (V3.out h4)
            have V4 := Lib.hid (V4.out h4)
            have hu3 : u2 + 4 ≤ n := by omega
            generalize u2 + 4 = u3 at hu3 HT V4 hD5 hG5
            clear V2 d4
            go_wp2_with fail
            refine HT.out.mono ?_
            rintro e w5 ⟨rfl, q5, rfl⟩
            have d5 := hD5.out q5
            have g5 := hG5.out q5
            clear hD5 hG5 HT
            generalize (w4.setCell ⟨g, 1, none⟩ (.int .i64 (u3 : Int))).drewN q5 = w5 at d5 g5 ⊢
            have bb5 := below_only hb hg g5
            go_wp2_with fail
            refine (pseal (some ⟨b0, o0, none⟩) u2 c (bs.take u2) w5 ((HY.out.head hu2).below bb5)).mono ?_
            rintro e w6 ⟨rfl, o6, b6⟩
            have d6 : Dec w6 g A n c u3 := (b6.block g (heap_lt d5)).trans d5
            have g6 := only_below g5 (b6.mono g5.size)
            have bb6 := below_only hb hg g6
            have y6 := o6.byts (by show 4 ≤ _; omega) (four_byte _)
            clear d5 g5 b6 o6
            by_cases hq : (bs.drop u2).take 4 = four (crcZ (bs.take u2))
            · have HV := Lib.hid (V4.out hq)
              have HS := Lib.hid (sequaly R2 _ 4 (c - u2) 4 4 _ _ true w6 (hR2.out.below bb6) y6 (by simp [hq]))
              clear V3 V4 hq y6
              go_wp2_with fail
              refine HS.out.mono ?_
              rintro e w7 ⟨rfl, q7, rfl⟩
              have d7 := d6.drew q7
              have g7 := only_drewN g6 q7
              generalize w6.drewN q7 = w7 at d7 g7 ⊢
              clear d6 g6 HS
              have bb7 := below_only hb hg g7
              go_wp2_with fail
              refine (scloney R1 m (c - u1) ((bs.drop u1).take m) w7 (hR1.out.below bb7) (by omega)).mono ?_
              rintro e w8 ⟨A8, c8, rfl, o8, b8⟩
              have D8 := Lib.hid (show Dec w8 g A n c u3 from (b8.block g (heap_lt d7)).trans d7)
              have G8 := Lib.hid (only_below g7 (b8.mono g7.size))
              have O8 := Lib.hid (o8.lower g7.size)
              have HL8 := Lib.hid (show ((bs.drop u1).take m).length = m from hR1.out.1)
              clear d7 g7 o8 b8
              go_wp2
              go_ret2
              refine ⟨fun _ => ?_, fun H => absurd (by rw [HV.out]) H, G8.out⟩
              rw [HV.out]
              show ∃ A' c', _ = Ending.returned (.tuple #[_, .slice A' ((bs.drop u1).take m).length c']) ∧ OwnedY _ _ (.slice A' ((bs.drop u1).take m).length c') ((bs.drop u1).take m) ∧ _
              rw [HL8.out]
              exact ⟨A8, c8, rfl, O8.out, D8.out⟩
            · have HV := Lib.hid (V3.out hq)
              have HS := Lib.hid (sequaly R2 _ 4 (c - u2) 4 4 _ _ false w6 (hR2.out.below bb6) y6 (by simp [hq]))
              clear V3 V4 hq y6
              go_wp2_with fail
              refine HS.out.mono ?_
              rintro e w7 ⟨rfl, q7, rfl⟩
              have G7 := Lib.hid (only_drewN g6 q7)
              generalize w6.drewN q7 = w7 at G7 ⊢
              clear d6 g6 HS
              go_wp2
              exact ⟨rfl, by rw [HV.out]; exact FramePost.bad (by decide) G7.out⟩
    · have hk := erA_range bs 1
      have HV := Lib.hid (HX.out.trans (opR_err hne.out he))
      have HL := Lib.hid (dlength_bad g A n c 1 bs w1 h bb1 hg d1 (by omega) hc (erA bs 1) (.inl ⟨he, rfl⟩))
      generalize erA bs 1 = k at HL hk he HV
      go_wp2_with fail
      refine HL.out.mono ?_
      rintro e w2 ⟨rfl, g2⟩
      exact ⟨rfl, by rw [HV.out]; exact FramePost.bad he (only_trans g1 g2)⟩
end Go.Proofs.Ytihahljpfekmbaa
