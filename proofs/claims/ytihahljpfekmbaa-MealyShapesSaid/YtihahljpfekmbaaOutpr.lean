/- The reference: insert and Outputs. -/
import Derived.Test.YtihahljpfekmbaaReachr
import Derived.Test.YtihahljpfekmbaaValr
namespace Go.Proofs.Ytihahljpfekmbaa
open Go.RowKit

/-- A number put into a list, ahead of the first greater one. -/
def ins : List Int → Int → List Int
  | [], v => [v]
  | x :: l, v => if v < x then v :: x :: l else x :: ins l v
def insS (l : List Int) (v : Int) : List Int := if v ∈ l then l else ins l v
theorem ins_len : ∀ (l : List Int) (v : Int), (ins l v).length = l.length + 1
  | [], _ => rfl
  | x :: l, v => by
    unfold ins
    split
    · rfl
    · rw [List.length_cons, ins_len l v]; rfl
theorem insS_len (l : List Int) (v : Int) : (insS l v).length ≤ l.length + 1 := by
  unfold insS
  split
  · omega
  · rw [ins_len]; exact Nat.le_refl _
theorem ins_now {xs : List Int} {j : Nat} {v : Int} (h : j < xs.length) (hv : v < xs.getD j 0) : ins (xs.drop j) v = v :: xs.drop j := by
  rw [List.drop_eq_getElem_cons h]
  rw [List.getD_eq_getElem?_getD, List.getElem?_eq_getElem h] at hv
  show (if v < xs[j] then _ else _) = _
  exact if_pos hv
theorem ins_on {xs : List Int} {j : Nat} {v : Int} (h : j < xs.length) (hv : ¬ v < xs.getD j 0) : ins (xs.drop j) v = xs.getD j 0 :: ins (xs.drop (j + 1)) v := by
  rw [List.drop_eq_getElem_cons h]
  rw [List.getD_eq_getElem?_getD, List.getElem?_eq_getElem h] at hv ⊢
  show (if v < xs[j] then _ else _) = _
  exact if_neg hv
theorem drop_on {xs : List Int} {j : Nat} (h : j < xs.length) : xs.drop j = xs.getD j 0 :: xs.drop (j + 1) := by
  rw [List.drop_eq_getElem_cons h, List.getD_eq_getElem?_getD, List.getElem?_eq_getElem h]; rfl
def restI (dn : Bool) (l : List Int) (v : Int) : List Int := if dn then l else ins l v

set_option maxHeartbeats 2000000 in
set_option maxRecDepth 100000 in
theorem rinsert (A : Option Addr) (n c : Nat) (xs : List Int) (v : Int) (base : Nat) (w : World) (ho : Owned w base (.slice A n c) xs) (hb : base ≤ w.heap.size) (hn : n ≤ 1000000) :
    Calls Try.prog 91 #[.slice A n c, .int .i64 v] w fun e w' => ∃ A' c', e = .returned (.slice A' (insS xs v).length c') ∧ Owned w' base (.slice A' (insS xs v).length c') (insS xs v) ∧ Below base w w' := by
  have hl : xs.length = n := by obtain ⟨A', c', e⟩ := ho.form; cases e; rfl
  have hx := ho.ints (by omega)
  have L := Lib.hid hl
  have HO := Lib.hid ho
  by_cases hm : v ∈ xs
  · have HH := Lib.hid (rhas A n c xs v true w hx (decide_eq_true hm).symm)
    have HR := Lib.hid (show insS xs v = xs by unfold insS; rw [if_pos hm])
    rw [HR.out, L.out]
    clear hm hl ho
    go_enter Try.func91, Try.ntmps91
    go_wp2_with fail
    refine HH.out.mono ?_
    rintro e w1 ⟨rfl, q, rfl⟩
    go_wp2
    go_ret
    exact ⟨A, c, rfl, HO.out.drew q, below_drewN (Below.refl _ _) q⟩
  · have HH := Lib.hid (rhas A n c xs v false w hx (decide_eq_false hm).symm)
    obtain ⟨R, hR⟩ : ∃ R, R = insS xs v := ⟨_, rfl⟩
    have HR := Lib.hid (show R = [] ++ restI false (xs.drop 0) v by rw [hR]; unfold insS restI; rw [if_neg hm, List.drop_zero]; rfl)
    rw [← hR]
    clear hm hl ho hR
    go_enter Try.func91, Try.ntmps91
    go_wp2_with fail
    refine HH.out.mono ?_
    rintro e w1 ⟨rfl, q, rfl⟩
    have B1 := Lib.hid (below_drewN (Below.refl base w) q)
    have hx1 : Ints (w.drewN q) A n xs := hx
    have hb1 : base ≤ (w.drewN q).heap.size := hb
    generalize w.drewN q = w1 at B1 hx1 hb1 ⊢
    clear HH HO hx
    go_wp2
    go_loopw [5, 6, 7] (fun ov dv jv wr => ∃ (j : Nat) (p : List Int) (Ao : Option Addr) (co : Nat) (dn : Bool), j ≤ n ∧ jv = .int .i64 j ∧ dv = .bool dn ∧ ov = .slice Ao p.length co ∧ p.length ≤ j + dn.toNat ∧ Owned wr w1.heap.size (.slice Ao p.length co) p ∧ R = p ++ restI dn (xs.drop j) v ∧ Below w1.heap.size w1 wr) (fun _ _ jv _ => n - (intOf jv).toNat)
    case atStart => exact ⟨0, [], none, 0, false, Nat.zero_le _, rfl, rfl, rfl, Nat.zero_le _, Owned.nil _ _, HR.out, Below.refl _ _⟩
    case round =>
      obtain ⟨j, p, Ao, co, dn, hj, rfl, rfl, rfl, hp, hown, hR, hbr⟩ := hrel
      have HQ := Lib.hid hR
      clear hR
      by_cases hlt : j < n
      · obtain ⟨g, o, rfl, hg, hcell0⟩ := hx1.at_ (k := j) hlt
        have hcell := (hbr.cell (p := ⟨g, o + j, none⟩) hg).trans hcell0
        cases dn with
        | true =>
          have hp : p.length ≤ j + 1 := hp
          have HN := Lib.hid (HQ.out.trans (show p ++ restI true (xs.drop j) v = (p ++ [xs.getD j 0]) ++ restI true (xs.drop (j + 1)) v by
            show p ++ xs.drop j = (p ++ [xs.getD j 0]) ++ xs.drop (j + 1)
            rw [drop_on (by rw [L.out]; exact hlt), List.append_assoc]; rfl))
          generalize xs.getD j 0 = x at hcell HN
          obtain ⟨A2, c2, w2, hr, ho2, hb2, _⟩ := run_append_one hown x hbr.size (by omega)
          have O2 := Lib.hid ho2
          have B2 := Lib.hid (hbr.trans hb2)
          have HL := Lib.hid (show (p ++ [x]).length = p.length + 1 by simp)
          clear ho2 hb2 hown hbr hcell0
          go_wp2_with (at_builtin; refine Lib.wpList_append_run _ rfl _ _ _ _ rfl _ _ rfl rfl _ _ hr ?_)
          go_roundw
          case rel => exact ⟨j + 1, p ++ [x], A2, c2, true, by omega, by go_num, rfl, by rw [HL.out], by rw [HL.out]; show _ ≤ j + 1 + 1; omega, by rw [HL.out]; exact O2.out, HN.out, B2.out⟩
          case measure => simp [intOf]; omega
        | false =>
          have hp : p.length ≤ j := hp
          by_cases hv : v < xs.getD j 0
          · have HN := Lib.hid (HQ.out.trans (show p ++ restI false (xs.drop j) v = ((p ++ [v]) ++ [xs.getD j 0]) ++ restI true (xs.drop (j + 1)) v by
              show p ++ ins (xs.drop j) v = ((p ++ [v]) ++ [xs.getD j 0]) ++ xs.drop (j + 1)
              rw [ins_now (by rw [L.out]; exact hlt) hv, drop_on (by rw [L.out]; exact hlt)]; simp))
            have hd : decide (v < xs.getD j 0) = true := decide_eq_true hv
            generalize xs.getD j 0 = x at hcell hcell0 HN hd
            obtain ⟨A2, c2, w2, hr, ho2, hb2, _⟩ := run_append_one hown v hbr.size (by omega)
            have hb3 := hbr.trans hb2
            have hcell2 := (hb3.cell (p := ⟨g, o + j, none⟩) hg).trans hcell0
            have hlp : (p ++ [v]).length = p.length + 1 := by simp
            rw [← hlp] at ho2
            obtain ⟨A3, c3, w3, hr3, ho3, hb4, _⟩ := run_append_one ho2 x hb3.size (by omega)
            rw [hlp] at hr3 ho3
            have O3 := Lib.hid ho3
            have B3 := Lib.hid (hb3.trans hb4)
            have HL := Lib.hid (show ((p ++ [v]) ++ [x]).length = p.length + 1 + 1 by simp)
            clear ho2 hb2 hown hbr hcell0 hb3 hb4 ho3 hv hlp
            go_wp2_with (at_builtin; first | (refine Lib.wpList_append_run _ rfl _ _ _ _ rfl _ _ rfl rfl _ _ hr ?_) | (refine Lib.wpList_append_run _ rfl _ _ _ _ rfl _ _ rfl rfl _ _ hr3 ?_))
            go_roundw
            case rel => exact ⟨j + 1, (p ++ [v]) ++ [x], A3, c3, true, by omega, by go_num, rfl, by rw [HL.out], by rw [HL.out]; show _ ≤ j + 1 + 1; omega, by rw [HL.out]; exact O3.out, HN.out, B3.out⟩
            case measure => simp [intOf]; omega
          · have HN := Lib.hid (HQ.out.trans (show p ++ restI false (xs.drop j) v = (p ++ [xs.getD j 0]) ++ restI false (xs.drop (j + 1)) v by
              show p ++ ins (xs.drop j) v = (p ++ [xs.getD j 0]) ++ ins (xs.drop (j + 1)) v
              rw [ins_on (by rw [L.out]; exact hlt) hv]; simp))
            have hd : decide (v < xs.getD j 0) = false := decide_eq_false hv
            generalize xs.getD j 0 = x at hcell HN hd
            obtain ⟨A2, c2, w2, hr, ho2, hb2, _⟩ := run_append_one hown x hbr.size (by omega)
            have O2 := Lib.hid ho2
            have B2 := Lib.hid (hbr.trans hb2)
            have HL := Lib.hid (show (p ++ [x]).length = p.length + 1 by simp)
            clear ho2 hb2 hown hbr hcell0 hv
            go_wp2_with (at_builtin; refine Lib.wpList_append_run _ rfl _ _ _ _ rfl _ _ rfl rfl _ _ hr ?_)
            go_roundw
            case rel => exact ⟨j + 1, p ++ [x], A2, c2, false, by omega, by go_num, rfl, by rw [HL.out], by rw [HL.out]; show _ ≤ j + 1 + 0; omega, by rw [HL.out]; exact O2.out, HN.out, B2.out⟩
            case measure => simp [intOf]; omega
      · obtain rfl : j = n := by omega
        cases dn with
        | true =>
          have HN := Lib.hid (HQ.out.trans (show p ++ restI true (xs.drop j) v = p by
            show p ++ xs.drop j = p
            rw [List.drop_eq_nil_of_le (by rw [L.out]; exact Nat.le_refl _), List.append_nil]))
          have O2 := Lib.hid (hown.lower hb1)
          have B2 := Lib.hid (B1.out.trans (hbr.mono hb1))
          clear hown hbr
          go_wp2
          go_ret
          rw [HN.out]
          exact ⟨Ao, co, rfl, O2.out, B2.out⟩
        | false =>
          have hp : p.length ≤ j := hp
          have HN := Lib.hid (HQ.out.trans (show p ++ restI false (xs.drop j) v = p ++ [v] by
            show p ++ ins (xs.drop j) v = p ++ [v]
            rw [List.drop_eq_nil_of_le (by rw [L.out]; exact Nat.le_refl _)]; rfl))
          obtain ⟨A2, c2, w2, hr, ho2, hb2, _⟩ := run_append_one hown v hbr.size (by omega)
          have O2 := Lib.hid (ho2.lower hb1)
          have B2 := Lib.hid (B1.out.trans ((hbr.trans hb2).mono hb1))
          have HL := Lib.hid (show (p ++ [v]).length = p.length + 1 by simp)
          clear ho2 hb2 hown hbr
          go_wp2_with (at_builtin; refine Lib.wpList_append_run _ rfl _ _ _ _ rfl _ _ rfl rfl _ _ hr ?_)
          go_ret
          rw [HN.out, HL.out]
          exact ⟨A2, c2, rfl, O2.out, B2.out⟩
end Go.Proofs.Ytihahljpfekmbaa
