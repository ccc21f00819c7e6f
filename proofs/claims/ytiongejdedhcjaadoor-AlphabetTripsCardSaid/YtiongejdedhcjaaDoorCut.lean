/- The walks of the reference's Cut and Words. -/
import Derived.Test.YtiongejdedhcjaaDoorSplit
namespace Go.Proofs.YtiongejdedhcjaaDoor
open Go.RowKit

/-- The closed parts, where parts may be empty. -/
structure Cuts (s : ByteArray) (cs : List ByteArray) (f pos : Nat) : Prop where
  le : f ≤ pos
  top : pos ≤ s.size
  nosp : NoSp s.data.toList f pos
  eq : cutL s.data.toList = btL cs ++ cutL (s.data.toList.drop f)
  count : cs.length ≤ f
  small : ∀ x, x ∈ cs → x.size ≤ 1048576
theorem Cuts.start (s : ByteArray) : Cuts s [] 0 0 := ⟨Nat.le_refl _, Nat.zero_le _, fun m h1 h2 => absurd h2 (by omega), by simp [btL], Nat.zero_le _, by simp⟩
theorem Cuts.go {s : ByteArray} {cs : List ByteArray} {f pos : Nat} (h : Cuts s cs f pos) (h1 : pos < s.size) (h2 : byt s pos ≠ 32) : Cuts s cs f (pos + 1) :=
  ⟨by have := h.le; omega, h1, fun m m1 m2 => by
    rcases Nat.lt_or_ge m pos with h3 | h3
    · exact h.nosp m m1 h3
    · have e : m = pos := by omega
      rw [e]; exact byt_ne h2, h.eq, h.count, h.small⟩
theorem Cuts.part {s : ByteArray} {cs : List ByteArray} {f pos : Nat} (h : Cuts s cs f pos) (hs : s.size ≤ 1048576) : (s.extract f pos).size ≤ 1048576 := by
  have hl := size_len s
  have hsg : (s.extract f pos).data.toList = sg s.data.toList f pos := ext_sg s f pos
  have hlen := sg_len s.data.toList h.le (by have := h.top; omega)
  rw [← size_len, hsg, hlen]; have := h.top; omega
theorem Cuts.close {s : ByteArray} {cs : List ByteArray} {f pos : Nat} (h : Cuts s cs f pos) (hs : s.size ≤ 1048576) (h1 : pos < s.size) (h2 : byt s pos = 32) : Cuts s (cs ++ [s.extract f pos]) (pos + 1) (pos + 1) := by
  have hl := size_len s
  have hsg : (s.extract f pos).data.toList = sg s.data.toList f pos := ext_sg s f pos
  refine ⟨Nat.le_refl _, by omega, fun m m1 m2 => absurd m2 (by omega), ?_, ?_, fun x hx => ?_⟩
  · rw [h.eq, cut_at h.le (by omega) h.nosp (byt_eq h2), btL_snoc, hsg, List.append_assoc]; rfl
  · rw [List.length_append]; have := h.count; have := h.le; simp; omega
  · rcases List.mem_append.1 hx with hx | hx
    · exact h.small x hx
    · rw [List.mem_singleton.1 hx]; exact h.part hs
theorem Cuts.done {s : ByteArray} {cs : List ByteArray} {f : Nat} (h : Cuts s cs f s.size) (hs : s.size ≤ 1048576) :
    btL (cs ++ [s.extract f s.size]) = cutL s.data.toList ∧ (∀ x, x ∈ cs ++ [s.extract f s.size] → x.size ≤ 1048576) := by
  have hl := size_len s
  have hsg : (s.extract f s.size).data.toList = sg s.data.toList f s.size := ext_sg s f s.size
  refine ⟨?_, fun x hx => ?_⟩
  · rw [h.eq, btL_snoc, hsg, cut_last (by rw [hl]; exact h.nosp), hl]
  · rcases List.mem_append.1 hx with hx | hx
    · exact h.small x hx
    · rw [List.mem_singleton.1 hx]; exact h.part hs

theorem set_last (cs : List ByteArray) (e y : ByteArray) : (cs ++ [e]).set cs.length y = cs ++ [y] := by
  rw [List.set_append_right _ _ (Nat.le_refl _), Nat.sub_self]; rfl

theorem OwnedS.cell_ {w : World} {base g n c : Nat} {xs : List ByteArray} (h : OwnedS w base (.slice (some ⟨g, 0, none⟩) n c) xs) {k : Nat} (hk : k < n) :
    w.cell? ⟨g, k, none⟩ = some (.string (xs.getD k ByteArray.empty)) := by
  have hn : n = xs.length := by obtain ⟨A', c', e⟩ := h.form; cases e; rfl
  subst hn
  have := World.ownsRow.cellAt h k (by omega)
  rw [this]
  simp [List.getD, hk]

set_option maxHeartbeats 2000000 in
theorem rcut (s : ByteArray) (hs : s.size ≤ 1048576) (w : World) :
    Calls Tryd.prog 38 #[.string s, .int .u8 32] w fun e w' => ∃ v, e = .returned v ∧ ∃ bs, OwnedS w' w.heap.size v bs ∧ btL bs = cutL s.data.toList ∧ (∀ x, x ∈ bs → x.size ≤ 1048576) ∧ Below w.heap.size w w' := by
  have hlit : OwnedS (w.alloc (.cells #[.string ⟨#[]⟩] 9)) w.heap.size (.slice (some ⟨w.heap.size, 0, none⟩) 1 1) [⟨#[]⟩] := OwnedS.literal w w.heap.size [⟨#[]⟩] _ 1 (Nat.le_refl _) rfl rfl (by simp)
  have hb0 := alloc_below w (.cells #[.string ⟨#[]⟩] 9)
  go_enter Tryd.func38, Tryd.ntmps38
  go_wp2
  go_loopw [5, 6, 7] (fun v t i wr => ∃ (j f : Nat) (V : Option Addr) (q c : Nat) (bs : List ByteArray), v = .slice V q c ∧ i = .int .i64 j ∧ t = .int .i64 f ∧ OwnedS wr w.heap.size (.slice V q c) bs ∧ Below w.heap.size w wr ∧ q ≤ 1048578 ∧ f ≤ s.size + 1 ∧ j ≤ s.size + 1 ∧
      (j ≤ s.size → ∃ cs, bs = cs ++ [⟨#[]⟩] ∧ Cuts s cs f j) ∧ (j = s.size + 1 → btL bs = cutL s.data.toList ∧ ∀ x, x ∈ bs → x.size ≤ 1048576)) (fun _ _ i _ => s.size + 1 - (intOf i).toNat)
  case atStart => exact ⟨0, 0, _, 1, 1, _, rfl, rfl, rfl, hlit, hb0, by omega, by omega, by omega, fun _ => ⟨[], rfl, Cuts.start s⟩, fun h => absurd h (by omega)⟩
  case round =>
    clear hlit hb0
    obtain ⟨j, f, V, q, c, bs, rfl, rfl, rfl, hown, hbr, hq, hf0, hj, hA, hB⟩ := hrel
    have HB := Lib.hid hB
    have HA := Lib.hid hA
    clear hA hB
    by_cases hle : j ≤ s.size
    · obtain ⟨cs, rfl, hcut⟩ := HA.out hle
      have HC := Lib.hid hcut
      have hfp := hcut.le
      have hcc := hcut.count
      have hq1 : q = cs.length + 1 := by have := hown.cap_.2; rw [List.length_append] at this; exact this
      obtain ⟨g, hV, hg1, hg2, hfr⟩ := hown.head (by omega)
      subst hV
      have hcell := hown.cell_ (k := cs.length) (by omega)
      have hst := hown.stored cs.length (s.extract f j)
      rw [set_last] at hst
      have hf1 := hfr cs.length
      clear hfr hcut HA
      rcases Nat.lt_or_ge j s.size with hlt | hge
      · have hb : (s[j]'hlt).toNat = byt s j := byt_at s j hlt
        by_cases hsp : byt s j = 32
        · have hnext := Lib.hid (HC.out.close hs hlt hsp)
          rw [hsp] at hb
          have hjs : ((j : Int) == (s.size : Int)) = false := by simp; omega
          clear hsp
          have hsm := hnext.out.small
          have hbr2 : Below w.heap.size w (wr.setCell ⟨g, cs.length, none⟩ (.string (s.extract f j))) := hbr.setCell (by exact hg1) _
          generalize hW : wr.setCell ⟨g, cs.length, none⟩ (.string (s.extract f j)) = W1 at hst hbr2
          have hszW : W1.heap.size = wr.heap.size := by rw [← hW]; simp
          have hbz := alloc_below W1 (.cells #[.string ⟨#[]⟩] 9)
          have hnew := one_str W1 (⟨#[]⟩ : ByteArray) (Nat.zero_le _)
          obtain ⟨v', w', hrn, ho', _, hbel'⟩ := run_append_strs _ _ _ _ _ _ _ 1 (hst.kept hbz) hnew (Nat.le_trans hbr2.size hbz.size) (by rw [List.length_append, List.length_append]; simp; omega)
          have hf := ho'.form
          have hln : (cs ++ [s.extract f j] ++ [(⟨#[]⟩ : ByteArray)]).length = cs.length + 2 := by rw [List.length_append, List.length_append]; rfl
          rw [hln] at hf
          obtain ⟨A', c', rfl⟩ := hf
          have hbw2 := hbr2.trans ((hbz.mono hbr2.size).trans hbel')
          clear hbz hnew hbel' hsm hln
          rw [hszW] at hrn
          clear hszW
          subst hW
          subst hq1
          go_wp2_with (at_builtin; refine Lib.wpList_append_run _ rfl _ _ _ _ rfl _ _ rfl rfl _ _ hrn ?_)
          go_roundw
          case rel => exact ⟨j + 1, j + 1, _, _, _, _, rfl, by go_num, by go_num, ho', hbw2, by omega, by omega, by omega, fun _ => ⟨_, rfl, hnext.out⟩, fun h => absurd h (by omega)⟩
          case measure => simp [intOf]; omega
        · have hnext := Lib.hid (HC.out.go hlt hsp)
          have hjs : ((j : Int) == (s.size : Int)) = false := by simp; omega
          have hbs : ((byt s j : Int) == 32) = false := by simp; omega
          clear hsp
          generalize byt s j = bb at hb hbs
          go_wp2
          go_roundw
          case rel => exact ⟨j + 1, f, _, _, _, _, rfl, by go_num, rfl, hown, hbr, by omega, by omega, by omega, fun _ => ⟨_, rfl, hnext.out⟩, fun h => absurd h (by omega)⟩
          case measure => simp [intOf]; omega
      · obtain rfl : j = s.size := by omega
        have hdone := Lib.hid (HC.out.done hs)
        have hbr2 : Below w.heap.size w (wr.setCell ⟨g, cs.length, none⟩ (.string (s.extract f s.size))) := hbr.setCell (by exact hg1) _
        subst hq1
        go_wp2
        go_roundw
        case rel => exact ⟨s.size + 1, s.size + 1, _, _, _, _, rfl, by go_num, by go_num, hst, hbr2, by omega, by omega, by omega, fun h => absurd h (by omega), fun _ => hdone.out⟩
        case measure => simp [intOf]
    · obtain rfl : j = s.size + 1 := by omega
      have hB := Lib.hid (HB.out rfl)
      clear HB HA
      go_wp2
      go_ret
      exact ⟨_, rfl, _, hown, hB.out.1, hB.out.2, hbr⟩
end Go.Proofs.YtiongejdedhcjaaDoor
