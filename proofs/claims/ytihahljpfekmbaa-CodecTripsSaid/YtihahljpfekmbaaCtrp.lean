/- The walk of CodecTrips. -/
import Derived.Test.YtihahljpfekmbaaClis
import Derived.Test.YtihahljpfekmbaaJoiny
import Derived.Test.YtihahljpfekmbaaEncr
import Derived.Test.YtihahljpfekmbaaOpenf
namespace Go.Proofs.Ytihahljpfekmbaa
open Go.RowKit

/-- What is said of an encoding: what is taken of it, whatever follows, and where it is cut. -/
def RtI (ea : List Nat) (n : Int) : Prop := 1 ≤ ea.length ∧ ea.length ≤ 10 ∧ (∀ b, b ∈ ea → b < 256) ∧ (∀ r, nmA (ea ++ r) 0 = (n, ea.length, 0)) ∧ ∀ j, j < ea.length → nmA (ea.take j) 0 = (0, 0, 4)
theorem rtI {n : Int} (h : R64 n) : RtI (enc (zig n)) n := by
  refine ⟨(enc_len _).1, (enc_len _).2, enc_byte h, fun r => ?_, fun j hj => ?_⟩
  · obtain ⟨h1, h2, h3⟩ := at_enc (pre := []) (r := r) h
    rw [List.nil_append] at h1 h2 h3
    rw [List.length_nil] at h1 h2 h3
    rw [nmA_ok h1, h2, h3]
  · have h1 := at_cut (pre := []) hj
    rw [List.nil_append, List.length_nil] at h1
    rw [nmA_bad (by rw [h1]; simp), h1]
def RtL (eb : List Nat) (l : List Int) : Prop := 1 ≤ eb.length ∧ eb.length ≤ 10 * l.length + 10 ∧ (∀ b, b ∈ eb → b < 256) ∧ (∀ r, lisA (eb ++ r) 0 = (l, eb.length, 0)) ∧ ∀ j, j < eb.length → lisA (eb.take j) 0 = ([], 0, 4)
theorem rtL {l : List Int} (h : RL l) (hl : l.length ≤ 1000) : RtL (encI l) l := by
  refine ⟨encI_pos l, encI_len l, encI_byte h (by omega), fun r => ?_, fun j hj => ?_⟩
  · have := lisA_enc (pre := []) (r := r) h (by omega)
    rwa [List.nil_append, List.length_nil, Nat.zero_add] at this
  · have := lisA_cut (pre := []) h (by omega) hj
    rwa [List.nil_append, List.length_nil] at this
def RtW (ec : List Nat) (l : List (List Int)) (K : Nat) : Prop := 1 ≤ ec.length ∧ ec.length ≤ 10 + (10 * K + 10) * l.length ∧ (∀ b, b ∈ ec → b < 256) ∧ (∀ r, worA (ec ++ r) 0 = (l, ec.length, 0)) ∧ ∀ j, j < ec.length → worA (ec.take j) 0 = ([], 0, 4)
theorem rtW {l : List (List Int)} {K : Nat} (h : ∀ x, x ∈ l → RL x) (hK : ∀ x, x ∈ l → x.length ≤ K) (hK2 : K ≤ 1000) (hl : l.length ≤ 1000) : RtW (encW l) l K := by
  have h2 : ∀ x, x ∈ l → RL x ∧ x.length ≤ 9223372036854775807 := fun x hx => ⟨h x hx, by have := hK x hx; omega⟩
  refine ⟨encW_pos l, encW_len hK, encW_byte h2 (by omega), fun r => ?_, fun j hj => ?_⟩
  · have := worA_enc (pre := []) (r := r) h2 (by omega)
    rwa [List.nil_append, List.length_nil, Nat.zero_add] at this
  · have := worA_cut (pre := []) h2 (by omega) hj
    rwa [List.nil_append, List.length_nil] at this

theorem box5 (w : World) (a b c d e : Value) (t : TypeId) : (w.alloc (.cells #[a, b, c, d, e] t)).cell? ⟨w.heap.size, 0, none⟩ = some a ∧ (w.alloc (.cells #[a, b, c, d, e] t)).cell? ⟨w.heap.size, 1, none⟩ = some b ∧ (w.alloc (.cells #[a, b, c, d, e] t)).cell? ⟨w.heap.size, 2, none⟩ = some c ∧
    (w.alloc (.cells #[a, b, c, d, e] t)).cell? ⟨w.heap.size, 3, none⟩ = some d ∧ (w.alloc (.cells #[a, b, c, d, e] t)).cell? ⟨w.heap.size, 4, none⟩ = some e :=
  ⟨box_cells (Below.refl _ _) 0, box_cells (Below.refl _ _) 1, box_cells (Below.refl _ _) 2, box_cells (Below.refl _ _) 3, box_cells (Below.refl _ _) 4⟩

theorem OwnedY.all {w : World} {base : Nat} {v : Value} {bs : List Nat} (h : OwnedY w base v bs) (hm : bs.length ≤ 140737488355328) (h256 : ∀ b, b ∈ bs → b < 256) : ∃ A c, v = .slice A bs.length c ∧ bs.length ≤ c ∧ Byts w A bs.length bs := by
  obtain ⟨A, c, rfl⟩ := h.form
  exact ⟨A, c, rfl, h.cap, h.byts hm h256⟩

set_option maxHeartbeats 4000000 in
set_option maxRecDepth 100000 in
theorem trips5_walk (n : Int) (A B D : Option Addr) (m c k e q f cut : Nat) (xs : List Int) (xss : List (List Int)) (bs : List Nat) (w : World) (hn : R64 n) (hx : Ints w A m xs) (hR : RL xs) (hy : Lists w B k xss) (hRR : ∀ l, l ∈ xss → RL l) (h : Byts w D q bs) (hcut : cut < 65536) :
    Calls Try.prog 6 #[.agg #[.int .i64 n, .slice A m c, .slice B k e, .slice D q f, .int .u16 cut]] w fun e w' => e = .returned (.bool true) ∧ Below w.heap.size w w' := by
  have HR := Lib.hid hR
  have HRR := Lib.hid hRR
  clear hR hRR
  have b0 := alloc_below w (.cells #[.int .i64 n, .slice A m c, .slice B k e, .slice D q f, .int .u16 (cut : Int)] 57)
  obtain ⟨x0, x1, x2, x3, x4⟩ := box5 w (.int .i64 n) (.slice A m c) (.slice B k e) (.slice D q f) (.int .u16 (cut : Int)) 57
  go_enter Try.func6, Try.ntmps6
  go_wp2
  go_quiet (fail)
  have b1 := below_drewN b0 nq
  generalize (w.alloc (.cells #[.int .i64 n, .slice A m c, .slice B k e, .slice D q f, .int .u16 (cut : Int)] 57)).drewN nq = w1 at b1 ⊢
  clear b0 x0 x1 x2 x3 x4
  by_cases hm : 100 < m
  · have hd : decide ((100 : Int) < (m : Int)) = true := by simp; omega
    go_wp2_with fail
    refine (awake5 _).mono ?_
    rintro e w2 ⟨rfl, b2⟩
    go_wp2
    go_ret
    exact ⟨rfl, bt b1 b2⟩
  · have hd : decide ((100 : Int) < (m : Int)) = false := by simp; omega
    go_wp2_with fail
    refine (rgreat B k e 20 xss _ (by omega) (hy.below b1)).mono ?_
    rintro e w1' ⟨⟨b, rfl, hP⟩, rfl⟩
    cases b with
    | true =>
      go_wp2_with fail
      refine (awake5 _).mono ?_
      rintro e w2 ⟨rfl, b2⟩
      go_wp2
      go_ret
      exact ⟨rfl, bt b1 b2⟩
    | false =>
      have HP := Lib.hid (hP rfl)
      clear hP
      by_cases hq : 100 < q
      · have hd2 : decide ((100 : Int) < (q : Int)) = true := by simp; omega
        go_wp2_with fail
        refine (awake5 _).mono ?_
        rintro e w2 ⟨rfl, b2⟩
        go_wp2
        go_ret
        exact ⟨rfl, bt b1 b2⟩
      · have hd2 : decide ((100 : Int) < (q : Int)) = false := by simp; omega
        have hk := HP.out.1
        have hI := rtI hn
        have hL := rtL HR.out (by rw [hx.1]; omega)
        have hW := rtW HRR.out HP.out.2 (by omega) (by rw [hy.1]; omega)
        have HLL := Lib.hid (show RLL xss from fun l hl => ⟨HRR.out l hl, by have := HP.out.2 l hl; omega⟩)
        have HP1 := Lib.hid (fun w => pputInt n w hn.1 hn.2)
        have HP2 := Lib.hid (fun w hb => pputInts A m c xs w hb HR.out (by omega))
        have HP3 := Lib.hid (fun w hb => pputWords B k e xss w hb HLL.out (by omega))
        generalize enc (zig n) = ea at hI HP1
        generalize encI xs = eb at hL HP2
        generalize encW xss = ec at hW HP3
        obtain ⟨i1, i2, i3, i4, i5⟩ := hI
        obtain ⟨l1, l2, l3, l4, l5⟩ := hL
        obtain ⟨c1, c2, c3, c4, c5⟩ := hW
        have I4 := Lib.hid i4
        have I5 := Lib.hid i5
        have L4 := Lib.hid l4
        have L5 := Lib.hid l5
        have C4 := Lib.hid c4
        have C5 := Lib.hid c5
        rw [hx.1] at l2
        rw [hy.1] at c2
        have Y3 := Lib.hid (And.intro i3 (And.intro l3 c3))
        clear i3 i4 i5 l3 l4 l5 c3 c4 c5 HRR HP
        go_wp2_with fail
        refine (HP1.out _).mono ?_
        rintro e w2 ⟨v2, rfl, h2, b2⟩
        obtain ⟨A2, k2, rfl, u2, y2⟩ := h2.all (by omega) Y3.out.1
        have b2 := bt b1 b2
        clear h2 b1
        go_wp2_with fail
        refine (HP2.out _ (hx.below b2)).mono ?_
        rintro e w3 ⟨v3, rfl, h3, b3⟩
        obtain ⟨A3, k3, rfl, u3, y3⟩ := h3.all (by omega) Y3.out.2.1
        have y2 := y2.below b3
        have b3 := bt b2 b3
        clear h3 b2
        go_wp2_with fail
        refine (HP3.out _ (hy.below b3)).mono ?_
        rintro e w4 ⟨v4, rfl, h4, b4⟩
        obtain ⟨A4, k4, rfl, u4, y4⟩ := h4.all (by omega) Y3.out.2.2
        have y2 := y2.below b4
        have y3 := y3.below b4
        have b4 := bt b3 b4
        clear h4 b3 HP1 HP2 HP3 Y3
        have H4 := Lib.hid (And.intro y2 (And.intro y3 (And.intro y4 b4)))
        clear y2 y3 y4 b4
        go_wp2_with fail
        refine (pjoin _ _ _ _ _ _ _ _ _ H4.out.1 (h.below H4.out.2.2.2) (by omega) (by omega)).mono ?_
        rintro e w5 ⟨D5, q5, rfl, g5, y5, b5⟩
        go_wp2_with fail
        refine (ptakeInt _ _ _ _ _ y5 g5).mono ?_
        rintro e w6 ⟨rfl, b6⟩
        rw [I4.out]
        have b6 := bt b5 b6
        have H6 := Lib.hid (And.intro (H4.out.1.below b6) (And.intro (H4.out.2.1.below b6) (And.intro (H4.out.2.2.1.below b6) (bt H4.out.2.2.2 b6))))
        clear H4 y5 g5 b5 b6
        go_wp2_with fail
        refine (pjoin _ _ _ _ _ _ _ _ _ H6.out.2.1 (h.below H6.out.2.2.2) (by omega) (by omega)).mono ?_
        rintro e w7 ⟨D7, q7, rfl, g7, y7, b7⟩
        go_wp2_with fail
        refine (ptakeInts _ _ _ _ _ y7 g7 (by omega)).mono ?_
        rintro e w8 ⟨A8, k8, rfl, o8, b8⟩
        rw [L4.out] at o8 ⊢
        have o8 := Owned.ints o8 (by show xs.length ≤ _; rw [hx.1]; omega)
        have b8 := bt b7 b8
        have H8 := Lib.hid (And.intro (H6.out.1.below b8) (And.intro (H6.out.2.1.below b8) (And.intro (H6.out.2.2.1.below b8) (And.intro (bt H6.out.2.2.2 b8) o8))))
        clear H6 y7 g7 b7 b8 o8
        go_wp2_with fail
        refine (pjoin _ _ _ _ _ _ _ _ _ H8.out.2.2.1 (h.below H8.out.2.2.2.1) (by omega) (by omega)).mono ?_
        rintro e w9 ⟨D9, q9, rfl, g9, y9, b9⟩
        go_wp2_with fail
        refine (ptakeWords _ _ _ _ _ y9 g9 (by omega)).mono ?_
        rintro e w10 ⟨A10, k10, rfl, o10, b10⟩
        rw [C4.out] at o10 ⊢
        have o10 := OwnedL.lists o10 (by show xss.length ≤ _; rw [hy.1]; omega) (fun z hz => by have := (HLL.out z hz).2; omega)
        have b10 := bt b9 b10
        have H10 := Lib.hid (And.intro (H8.out.1.below b10) (And.intro (H8.out.2.1.below b10) (And.intro (H8.out.2.2.1.below b10) (And.intro (bt H8.out.2.2.2.1 b10) (And.intro (H8.out.2.2.2.2.below b10) o10)))))
        clear H8 y9 g9 b9 b10 o10 I4 L4 C4
        go_wp2_with fail
        refine (rsameD _ _ _ _ _ _ xs xs true _ H10.out.2.2.2.2.1 (hx.below H10.out.2.2.2.1) (by simp)).mono ?_
        rintro e w11 ⟨rfl, q11⟩
        have b11 := rd_below q11
        have H11 := Lib.hid (And.intro (H10.out.1.below b11) (And.intro (H10.out.2.1.below b11) (And.intro (H10.out.2.2.1.below b11) (And.intro (bt H10.out.2.2.2.1 b11) (H10.out.2.2.2.2.2.below b11)))))
        clear H10 b11 q11
        have n1 : ((ea.length : Int) == 0) = false := beq_false_of_ne (by omega)
        have n2 : ((eb.length : Int) == 0) = false := beq_false_of_ne (by omega)
        have n3 : ((ec.length : Int) == 0) = false := beq_false_of_ne (by omega)
        go_wp2_with fail
        refine (rsameWords _ _ _ _ _ _ xss xss true _ H11.out.2.2.2.2 (hy.below H11.out.2.2.2.1) (by simp)).mono ?_
        rintro e w12 ⟨rfl, q12⟩
        have b12 := rd_below q12
        have H12 := Lib.hid (And.intro (H11.out.1.below b12) (And.intro (H11.out.2.1.below b12) (And.intro (H11.out.2.2.1.below b12) (bt H11.out.2.2.2.1 b12))))
        clear H11 b12 q12
        have z1 : ¬ (ea.length : Int) = 0 := by omega
        have z2 : ¬ (eb.length : Int) = 0 := by omega
        have z3 : ¬ (ec.length : Int) = 0 := by omega
        have m1 : cut % ea.length < ea.length := Nat.mod_lt _ (by omega)
        have m2 : cut % eb.length < eb.length := Nat.mod_lt _ (by omega)
        have m3 : cut % ec.length < ec.length := Nat.mod_lt _ (by omega)
        have s1 := fun W => run_heady A2 ea.length k2 (cut % ea.length) (Nat.le_of_lt m1) u2 W
        have s2 := fun W => run_heady A3 eb.length k3 (cut % eb.length) (Nat.le_of_lt m2) u3 W
        have s3 := fun W => run_heady A4 ec.length k4 (cut % ec.length) (Nat.le_of_lt m3) u4 W
        go_wp2_with fail
        refine (ptakeInt _ _ _ _ _ (H12.out.1.head (Nat.le_of_lt m1)) (Nat.le_trans (Nat.le_of_lt m1) u2)).mono ?_
        rintro e w13 ⟨rfl, b13⟩
        rw [I5.out _ m1]
        have H13 := Lib.hid (And.intro (H12.out.2.1.below b13) (And.intro (H12.out.2.2.1.below b13) (bt H12.out.2.2.2 b13)))
        clear H12 b13 s1 z1
        go_wp2_with fail
        refine (ptakeInts _ _ _ _ _ (H13.out.1.head (Nat.le_of_lt m2)) (Nat.le_trans (Nat.le_of_lt m2) u3) (Nat.le_trans (Nat.le_of_lt m2) (by omega))).mono ?_
        rintro e w14 ⟨A14, k14, rfl, _, b14⟩
        rw [L5.out _ m2]
        have H14 := Lib.hid (And.intro (H13.out.2.1.below b14) (bt H13.out.2.2 b14))
        clear H13 b14 s2 z2
        go_wp2_with fail
        refine (ptakeWords _ _ _ _ _ (H14.out.1.head (Nat.le_of_lt m3)) (Nat.le_trans (Nat.le_of_lt m3) u4) (Nat.le_trans (Nat.le_of_lt m3) (by omega))).mono ?_
        rintro e w15 ⟨A15, k15, rfl, _, b15⟩
        rw [C5.out _ m3]
        have H15 := Lib.hid (bt H14.out.2 b15)
        clear H14 b15 s3 z3
        go_wp2_with fail
        refine (awake5 _).mono ?_
        rintro e w16 ⟨rfl, b16⟩
        have H16 := Lib.hid (bt H15.out b16)
        clear H15 b16
        go_wp2
        go_ret
        exact ⟨rfl, H16.out⟩
end Go.Proofs.Ytihahljpfekmbaa
