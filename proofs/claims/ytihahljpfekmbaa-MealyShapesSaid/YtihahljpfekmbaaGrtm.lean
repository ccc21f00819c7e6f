/- Great of a machine; what the trimmed machine is in memory. -/
import Derived.Test.YtihahljpfekmbaaCutm
import Derived.Test.YtihahljpfekmbaaTrimq
namespace Go.Proofs.Ytihahljpfekmbaa
open Go.RowKit

theorem rgreatm (i st : Int) (A B : Option Addr) (n c m d : Nat) (b : Bool) (w : World) (hb : b = decide (40 < n ∨ 40 < m ∨ 20 < i)) :
    Calls Try.prog 48 #[.agg #[.int .i64 i, .int .i64 st, .slice A n c, .slice B m d]] w fun e w' => e = .returned (.bool b) ∧ Below w.heap.size w w' := by
  by_cases h1 : 40 < n
  · have hf := Lib.hid (hb.trans (decide_eq_true (.inl h1)))
    have d1 : decide ((40 : Int) < (n : Int)) = true := by simp; omega
    clear hb
    go_enter Try.func48, Try.ntmps48
    go_wp2
    go_ret
    exact ⟨ret_bool hf.out.symm, alloc_below _ _⟩
  · have d1 : decide ((40 : Int) < (n : Int)) = false := by simp; omega
    by_cases h2 : 40 < m
    · have hf := Lib.hid (hb.trans (decide_eq_true (.inr (.inl h2))))
      have d2 : decide ((40 : Int) < (m : Int)) = true := by simp; omega
      clear hb
      go_enter Try.func48, Try.ntmps48
      go_wp2
      go_ret
      exact ⟨ret_bool hf.out.symm, alloc_below _ _⟩
    · have d2 : decide ((40 : Int) < (m : Int)) = false := by simp; omega
      by_cases h3 : 20 < i
      · have hf := Lib.hid (hb.trans (decide_eq_true (.inr (.inr h3))))
        have d3 : decide ((20 : Int) < i) = true := by simpa using h3
        clear hb
        go_enter Try.func48, Try.ntmps48
        go_wp2
        go_ret
        exact ⟨ret_bool hf.out.symm, alloc_below _ _⟩
      · have hf := Lib.hid (hb.trans (decide_eq_false (fun H => by omega)))
        have d3 : decide ((20 : Int) < i) = false := by simpa using h3
        clear hb
        go_enter Try.func48, Try.ntmps48
        go_wp2
        go_ret
        exact ⟨ret_bool hf.out.symm, alloc_below _ _⟩

/-- Trim, with what its rows read as. -/
theorem ptrim_law (i st n : Nat) (A B : Option Addr) (c d : Nat) (nx ot : List (List Int)) (w : World) (hx : Lists w A n nx) (ho : Lists w B n ot) (hM : Mok i st n nx ot) :
    Calls Try.prog 50 #[.agg #[.int .i64 i, .int .i64 st, .slice A n c, .slice B n d]] w fun e w' => ∃ A' c' B' d',
      e = .returned (.tuple #[.agg #[.int .i64 i, .int .i64 0, .slice A' (rch nx i st).length c', .slice B' (rch nx i st).length d'], .int .i64 0]) ∧
      Lists w' A' (rch nx i st).length (trN nx i (rch nx i st)) ∧ Lists w' B' (rch nx i st).length (trO ot (rch nx i st)) ∧ Below w.heap.size w w' := by
  refine (ptrim_ok i st n A B c d nx ot w hx ho hM).mono ?_
  rintro e w' ⟨A', c', B', d', rfl, h1, h2, h3⟩
  have hl := hM.rch_stt.len
  have h128 := hM.n2
  have h64 := hM.i2
  have l1 : (trN nx i (rch nx i st)).length = (rch nx i st).length := by simp [trN]
  have l2 : (trO ot (rch nx i st)).length = (rch nx i st).length := by simp [trO]
  refine ⟨A', c', B', d', rfl, h1.lists (by rw [l1]; omega) fun xs hx => ?_, h2.lists (by rw [l2]; omega) fun xs hx => ?_, h3⟩
  · unfold trN at hx
    obtain ⟨s, _, rfl⟩ := List.mem_map.1 hx
    rw [trR_len]; omega
  · unfold trO at hx
    obtain ⟨s, hs, rfl⟩ := List.mem_map.1 hx
    rw [(hM.row s (hM.rch_stt.2 s hs)).2.1]; omega

theorem Mblk.upd {w w' : World} {g : Nat} {a b c d : Value} (h : Mblk w g a b c d) (hb : Below w.heap.size w w') : Mblk w' g a b c d := h.kept hb (heap_lt h)

theorem tr_frm {i st n : Nat} {nx ot : List (List Int)} (hM : Mok i st n nx ot) (xs : List Int) :
    (frm i 0 (trN nx i (rch nx i st)) (trO ot (rch nx i st)) 0 xs).1 = (frm i st nx ot st xs).1 ∧ (frm i 0 (trN nx i (rch nx i st)) (trO ot (rch nx i st)) 0 xs).2.2 = (frm i st nx ot st xs).2.2 := by
  have hT := hM.tr
  by_cases h : chk xs i = 0
  · have e1 := hM.frm hM.st h
    have e2 := hT.frm hT.st h
    have e2 : frm i 0 (trN nx i (rch nx i st)) (trO ot (rch nx i st)) 0 xs = _ := e2
    rw [e1, e2]
    refine ⟨?_, rfl⟩
    have := tr_run hM xs st (st_mem nx i st) (chk_zero h).2.2.2.mem
    rw [ixN_st] at this
    exact this
  · have h0 := hT.n1
    have h1 := hM.st
    have e1 := frm_word (s := st) hM.vld (by rw [hM.nxl]; omega) h
    have e2 := frm_word (st := 0) (s := 0) hT.vld (by rw [hT.nxl]; omega) h
    rw [e1, e2]
    exact ⟨rfl, rfl⟩
end Go.Proofs.Ytihahljpfekmbaa
