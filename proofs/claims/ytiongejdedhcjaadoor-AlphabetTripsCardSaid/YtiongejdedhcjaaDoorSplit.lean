/- The walk of the program's split. -/
import Derived.Test.YtiongejdedhcjaaDoorCutp
import Derived.Test.YtiongejdedhcjaaDoorText
import Derived.Lib.OthersKept
namespace Go.Proofs.YtiongejdedhcjaaDoor
open Go.RowKit

theorem OwnedS.iterAt {w : World} {base k : Nat} {v : Value} {xs : List ByteArray} (h : OwnedS w base v xs) (hk : k < base) (s : ByteArray) (p : Nat) : OwnedS (w.iterAt k s p) base v xs := by
  refine ⟨h.1, ?_⟩
  rcases h.2 with e | ⟨g, cap, cur, hv, hbg, hg, r⟩
  · exact .inl e
  · exact .inr ⟨g, cap, cur, hv, hbg, by rw [Lib.iterAt_other _ _ _ _ _ (by omega)]; exact hg, r⟩

theorem ext_sg (s : ByteArray) (f i : Nat) : (s.extract f i).data.toList = sg s.data.toList f i := by
  rw [ByteArray.data_extract, Array.toList_extract, List.extract_eq_take_drop]
  rfl

/-- A literal of one string. -/
theorem one_str (w : World) (y : ByteArray) (hy : y.size ≤ 17592186044416) : Strs (w.alloc (.cells #[.string y] 9)) (some ⟨w.heap.size, 0, none⟩) 1 [y] := by
  refine ⟨rfl, by omega, fun _ => ⟨w.heap.size, 0, rfl, by simp, fun j hj => ?_⟩, fun j hj => ?_⟩
  · obtain rfl : j = 0 := by omega
    have := cell_of_row (w.alloc (.cells #[.string y] 9)) w.heap.size 0 #[.string y] 9 (0, 0) (heap_alloc_new w _)
    rw [this]; rfl
  · obtain rfl : j = 0 := by omega
    exact hy

theorem btL_snoc (cs : List ByteArray) (y : ByteArray) : btL (cs ++ [y]) = btL cs ++ [y.data.toList] := by unfold btL; simp
theorem ret_vb {v v' : Value} {b b' : Bool} (h1 : v = v') (h2 : b = b') : Ending.returned (.tuple #[v, .bool b]) = .returned (.tuple #[v', .bool b']) := by rw [h1, h2]

/-- What a split text has given so far: the closed parts, and where the open one begins. -/
structure Cutting (s : ByteArray) (cs : List ByteArray) (f pos : Nat) : Prop where
  le : f ≤ pos
  top : pos ≤ s.size
  nosp : NoSp s.data.toList f pos
  eq : cutL s.data.toList = btL cs ++ cutL (s.data.toList.drop f)
  full : ∀ p, p ∈ btL cs → p ≠ []
  count : cs.length ≤ f
  small : ∀ x, x ∈ cs → x.size ≤ 1048576

theorem Cutting.start (s : ByteArray) : Cutting s [] 0 0 := ⟨Nat.le_refl _, Nat.zero_le _, fun m h1 h2 => absurd h2 (by omega), by simp [btL], by simp [btL], Nat.zero_le _, by simp⟩
theorem Cutting.go {s : ByteArray} {cs : List ByteArray} {f pos sz : Nat} (h : Cutting s cs f pos) (h1 : pos + sz ≤ s.size) (h2 : ∀ m, pos ≤ m → m < pos + sz → byt s m ≠ 32) : Cutting s cs f (pos + sz) :=
  ⟨by have := h.le; omega, h1, fun m m1 m2 => by
    rcases Nat.lt_or_ge m pos with h3 | h3
    · exact h.nosp m m1 h3
    · exact byt_ne (h2 m h3 m2), h.eq, h.full, h.count, h.small⟩
theorem size_len (s : ByteArray) : s.data.toList.length = s.size := by simp
/-- At a space behind the beginning of the open part. -/
theorem Cutting.close {s : ByteArray} {cs : List ByteArray} {f pos : Nat} (h : Cutting s cs f pos) (hs : s.size ≤ 1048576) (h1 : pos < s.size) (h2 : byt s pos = 32) (h3 : f < pos) : Cutting s (cs ++ [s.extract f pos]) (pos + 1) (pos + 1) := by
  have hl := size_len s
  have hsg : (s.extract f pos).data.toList = sg s.data.toList f pos := ext_sg s f pos
  have hlen := sg_len s.data.toList h.le (by have := h.top; omega)
  refine ⟨Nat.le_refl _, by omega, fun m m1 m2 => absurd m2 (by omega), ?_, fun p hp => ?_, ?_, fun x hx => ?_⟩
  · rw [h.eq, cut_at h.le (by omega) h.nosp (byt_eq h2), btL_snoc, hsg, List.append_assoc]; rfl
  · rw [btL_snoc] at hp
    rcases List.mem_append.1 hp with hp | hp
    · exact h.full p hp
    · rw [List.mem_singleton.1 hp, hsg]
      intro e; rw [e] at hlen; simp at hlen; omega
  · rw [List.length_append]; have := h.count; simp; omega
  · rcases List.mem_append.1 hx with hx | hx
    · exact h.small x hx
    · rw [List.mem_singleton.1 hx]
      rw [← size_len, hsg, hlen]; omega
/-- At a space where the open part begins. -/
theorem Cutting.empty {s : ByteArray} {cs : List ByteArray} {pos : Nat} (h : Cutting s cs pos pos) (h1 : pos < s.size) (h2 : byt s pos = 32) : pv s.data.toList = ([], false) := by
  have hl := size_len s
  apply pv_bad
  · intro e; rw [e] at hl; simp at hl; omega
  · rw [h.eq, cut_at h.le (by omega) h.nosp (byt_eq h2)]
    have : sg s.data.toList pos pos = [] := List.eq_nil_of_length_eq_zero (by rw [sg_len _ (Nat.le_refl _) (by omega)]; omega)
    rw [this]; simp
theorem Cutting.last {s : ByteArray} {cs : List ByteArray} (h : Cutting s cs s.size s.size) (h0 : s.size ≠ 0) : pv s.data.toList = ([], false) := by
  have hl := size_len s
  apply pv_bad
  · intro e; rw [e] at hl; simp at hl; omega
  · rw [h.eq, List.drop_of_length_le (by omega)]; simp [cutL]
theorem Cutting.done {s : ByteArray} {cs : List ByteArray} {f : Nat} (h : Cutting s cs f s.size) (hs : s.size ≤ 1048576) (h0 : f < s.size) :
    pv s.data.toList = (btL (cs ++ [s.extract f s.size]), true) ∧ (∀ x, x ∈ cs ++ [s.extract f s.size] → x.size ≤ 1048576) ∧ (cs ++ [s.extract f s.size]).length ≤ 1048577 := by
  have hl := size_len s
  have hsg : (s.extract f s.size).data.toList = sg s.data.toList f s.size := ext_sg s f s.size
  have hlen := sg_len s.data.toList h.le (by omega)
  have hc : cutL s.data.toList = btL (cs ++ [s.extract f s.size]) := by
    rw [h.eq, btL_snoc, hsg, cut_last (by rw [hl]; exact h.nosp), hl]
  refine ⟨?_, fun x hx => ?_, ?_⟩
  · rw [pv_ok (by intro e; rw [e] at hl; simp at hl; omega) (by
      rw [hc, btL_snoc, hsg]
      intro hp
      rcases List.mem_append.1 hp with hp | hp
      · exact h.full _ hp rfl
      · rw [← List.mem_singleton.1 hp] at hlen; simp at hlen; omega), hc]
  · rcases List.mem_append.1 hx with hx | hx
    · exact h.small x hx
    · rw [List.mem_singleton.1 hx, ← size_len, hsg, hlen]; omega
  · rw [List.length_append]; have := h.count; simp; omega

set_option maxHeartbeats 2000000 in
theorem psplit (s : ByteArray) (hs : s.size ≤ 1048576) (w : World) :
    Calls Tryd.prog 30 #[.string s] w fun e w' => ∃ v, e = .returned (.tuple #[v, .bool (pv s.data.toList).2]) ∧ ∃ bs, OwnedS w' w.heap.size v bs ∧ btL bs = (pv s.data.toList).1 ∧ (∀ x, x ∈ bs → x.size ≤ 1048576) ∧ bs.length ≤ 1048577 ∧ Below w.heap.size w w' := by
  by_cases h0 : s.size = 0
  · obtain rfl : s = ⟨#[]⟩ := str_inj (by
      have := size_len s
      rw [h0] at this
      exact List.eq_nil_of_length_eq_zero this)
    go_enter Tryd.func30, Tryd.ntmps30
    go_wp2
    go_ret2
    exact ⟨_, rfl, [], OwnedS.nil _ _, rfl, by simp, by simp, Below.refl _ _⟩
  · have hne : s.toList.isEmpty = false := by
      have := size_len s
      rw [ByteArray.toList_eq]
      cases h : s.data.toList with
      | nil => rw [h] at this; simp at this; omega
      | cons a l => rfl
    have H0 := Lib.hid h0
    clear h0
    go_enter Tryd.func30, Tryd.ntmps30
    go_wp2
    go_loopw [4, 5] (fun v t wr => ∃ (pos f : Nat) (cs : List ByteArray) (V : Option Addr) (c : Nat), v = .slice V cs.length c ∧ t = .int .i64 f ∧ wr.heap[w.heap.size]? = some (.stringIter s pos) ∧ OwnedS wr (w.heap.size + 1) v cs ∧ Cutting s cs f pos ∧ Below w.heap.size w wr) (fun _ _ wr => s.size - wr.iterPos w.heap.size)
    case atStart => exact ⟨0, 0, [], _, _, rfl, rfl, World.iter_heap w s 0, OwnedS.nil _ _, Cutting.start s, iter_below w s 0⟩
    case round =>
      obtain ⟨pos, f, cs, V, c, rfl, rfl, hit, hown, hcut, hbr⟩ := hrel
      have HC := Lib.hid hcut
      have hfp := hcut.le
      have hps := hcut.top
      clear hcut
      have hsz : w.heap.size + 1 ≤ wr.heap.size := (Array.getElem?_eq_some_iff.1 hit).1
      by_cases hlt : pos < s.size
      · have hnx : ∀ ty, (Instr.next (.pointer (some ⟨w.heap.size, 0, none⟩)) true ty).run Tryd.prog wr = _ := fun ty => Lib.run_next_any_at wr w.heap.size s pos ty hit hlt
        by_cases hsp : byt s pos = 32
        · rw [dec_low hlt (by omega), hsp] at hnx
          have hit2 := Lib.iterAt_heap wr w.heap.size s pos (pos + 1) hit
          have hbr2 := Lib.below_iterAt hbr (k := w.heap.size) (Nat.le_refl _) s (pos + 1)
          by_cases hpf : pos = f
          · have hfin := Lib.hid (show pv s.data.toList = ([], false) by subst hpf; exact HC.out.empty hlt hsp)
            have hq : ((pos : Int) == (f : Int)) = true := by simp; omega
            clear hsp hpf
            go_wp2
            go_ret2
            exact ⟨_, ret_vb rfl (by rw [hfin.out]), [], OwnedS.nil _ _, by rw [hfin.out]; rfl, by simp, by simp, hbr2⟩
          · have hnext := Lib.hid (HC.out.close hs hlt hsp (by omega))
            have hq : ((pos : Int) == (f : Int)) = false := by simp; omega
            have hy : (s.extract f pos).size ≤ 17592186044416 := by have := hnext.out.small (s.extract f pos) (by simp); omega
            have hcnt := hnext.out.count
            rw [List.length_append] at hcnt
            have hown2 := hown.iterAt (Nat.lt_succ_self _) s (pos + 1)
            clear hsp hpf
            generalize hW : wr.iterAt w.heap.size s (pos + 1) = W1 at hnx hit2 hbr2 hown2
            have hsz1 : w.heap.size + 1 ≤ W1.heap.size := by rw [← hW, Lib.iterAt_size]; exact hsz
            clear hW
            have hbz := alloc_below W1 (.cells #[.string (s.extract f pos)] 9)
            have hnew := one_str W1 (s.extract f pos) hy
            obtain ⟨v', w', hrn, ho', _, hbel'⟩ := run_append_strs _ _ _ _ _ _ _ 1 (hown2.kept hbz) hnew (Nat.le_trans hsz1 hbz.size) (by rw [List.length_append]; simp at hcnt ⊢; omega)
            have hf := ho'.form
            have hln : (cs ++ [s.extract f pos]).length = cs.length + 1 := by rw [List.length_append]; rfl
            rw [hln] at hf
            obtain ⟨A', c', rfl⟩ := hf
            have HLN := Lib.hid hln
            clear hln
            have hit3 : w'.heap[w.heap.size]? = some (.stringIter s (pos + 1)) := by
              rw [hbel'.block _ (Nat.lt_succ_self _), hbz.block _ (by omega)]; exact hit2
            have hbw2 := hbr2.trans ((hbz.mono (by omega)).trans (hbel'.mono (Nat.le_succ _)))
            clear hbz hnew
            go_wp2_with (at_builtin; refine Lib.wpList_append_run _ rfl _ _ _ _ rfl _ _ rfl rfl _ _ hrn ?_)
            go_roundw
            case rel => exact ⟨pos + 1, pos + 1, cs ++ [s.extract f pos], _, _, by rw [HLN.out], by go_num, hit3, ho', hnext.out, hbw2⟩
            case measure => simp only [World.iterPos, hit3, hit]; omega
        · have hdec : Hid (pos + (Utf8.decode s pos).2 ≤ s.size ∧ 1 ≤ (Utf8.decode s pos).2 ∧ (Utf8.decode s pos).1 ≠ 32 ∧ ∀ m, pos ≤ m → m < pos + (Utf8.decode s pos).2 → byt s m ≠ 32) := Lib.hid (by
            rcases Nat.lt_or_ge (byt s pos) 128 with h1 | h1
            · rw [dec_low hlt h1]
              exact ⟨hlt, Nat.le_refl _, hsp, fun m m1 m2 => by
                have m2 : m < pos + 1 := m2
                have e : m = pos := by omega
                rw [e]; exact hsp⟩
            · obtain ⟨a1, a2⟩ := dec_skip hlt h1
              obtain ⟨a3, a4⟩ := dec_high hlt h1
              exact ⟨a1, a4, by omega, fun m m1 m2 => by have := a2 m m1 m2; omega⟩)
          have hnext := Lib.hid (HC.out.go hdec.out.1 hdec.out.2.2.2)
          have hit2 := Lib.iterAt_heap wr w.heap.size s pos (pos + (Utf8.decode s pos).2) hit
          have hbr2 := Lib.below_iterAt hbr (k := w.heap.size) (Nat.le_refl _) s (pos + (Utf8.decode s pos).2)
          have hown2 := hown.iterAt (Nat.lt_succ_self _) s (pos + (Utf8.decode s pos).2)
          have hq : (((Utf8.decode s pos).1 : Int) != 32) = true := by have := hdec.out.2.2.1; simp; omega
          have h1le : pos < pos + (Utf8.decode s pos).2 := by have := hdec.out.2.1; omega
          have h2le := hdec.out.1
          clear hsp
          generalize wr.iterAt w.heap.size s (pos + (Utf8.decode s pos).2) = W1 at hnx hit2 hbr2 hown2
          generalize (Utf8.decode s pos).1 = r at hnx hq hdec
          generalize pos + (Utf8.decode s pos).2 = pos2 at hit2 hnext hdec h1le h2le
          go_wp2
          go_roundw
          case rel => exact ⟨pos2, f, cs, _, _, rfl, rfl, hit2, hown2, hnext.out, hbr2⟩
          case measure => simp only [World.iterPos, hit2, hit]; omega
      · have hnx : ∀ ty, (Instr.next (.pointer (some ⟨w.heap.size, 0, none⟩)) true ty).run Tryd.prog wr = _ := fun ty => Lib.run_next_end_at wr w.heap.size s pos ty hit hlt
        obtain rfl : pos = s.size := by omega
        by_cases hf : f = s.size
        · have hfin := Lib.hid (show pv s.data.toList = ([], false) by have := HC.out; rw [hf] at this; exact this.last H0.out)
          have hq : ((f : Int) == (s.size : Int)) = true := by simp; omega
          clear hf
          go_wp2
          go_ret2
          exact ⟨_, ret_vb rfl (by rw [hfin.out]), [], OwnedS.nil _ _, by rw [hfin.out]; rfl, by simp, by simp, hbr⟩
        · have hdone := Lib.hid (HC.out.done hs (by omega))
          have hq : ((f : Int) == (s.size : Int)) = false := by simp; omega
          have hy : (s.extract f s.size).size ≤ 17592186044416 := by have := hdone.out.2.1 (s.extract f s.size) (by simp); omega
          have hcnt := hdone.out.2.2
          clear hf
          have hbz := alloc_below wr (.cells #[.string (s.extract f s.size)] 9)
          have hnew := one_str wr (s.extract f s.size) hy
          obtain ⟨v', w', hrn, ho', _, hbel'⟩ := run_append_strs _ _ _ _ _ _ _ 1 (hown.kept hbz) hnew (Nat.le_trans hsz hbz.size) (by omega)
          have hbw2 := hbr.trans ((hbz.mono (by omega)).trans (hbel'.mono (Nat.le_succ _)))
          clear hbz hnew hbel' hcnt
          go_wp2_with (at_builtin; refine Lib.wpList_append_run _ rfl _ _ _ _ rfl _ _ rfl rfl _ _ hrn ?_)
          go_ret2
          exact ⟨_, ret_vb rfl (by rw [hdone.out.1]), _, ho'.lower (Nat.le_succ _), by rw [hdone.out.1], hdone.out.2.1, hdone.out.2.2, hbw2⟩
end Go.Proofs.YtiongejdedhcjaaDoor
