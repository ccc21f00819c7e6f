/- What the two texts return alike. -/
import Derived.Test.YtihahljpfekmbaaGrtm
import Derived.Test.YtihahljpfekmbaaTrimr
import Derived.Test.YtihahljpfekmbaaOutpp
import Derived.Test.YtihahljpfekmbaaTracem
import Derived.Test.YtihahljpfekmbaaTracer
import Derived.Test.YtihahljpfekmbaaSamet
import Derived.Test.YtihahljpfekmbaaLongm
namespace Go.Proofs.Ytihahljpfekmbaa
open Go.RowKit

def ArgM (i st : Int) (A : Option Addr) (n c : Nat) (B : Option Addr) (m d : Nat) : Value := .agg #[.int .i64 i, .int .i64 st, .slice A n c, .slice B m d]

theorem own_lists {w : World} {base k i n : Nat} {A B : Option Addr} {c d st : Nat} {nx ot : List (List Int)} (hM : Mok i st n nx ot) (hk : (rch nx i st).length = k)
    (h1 : OwnedL w base (.slice A k c) (trN nx i (rch nx i st))) (h2 : OwnedL w base (.slice B k d) (trO ot (rch nx i st))) : Lists w A k (trN nx i (rch nx i st)) ∧ Lists w B k (trO ot (rch nx i st)) := by
  have hl := hM.rch_stt.len
  have h128 := hM.n2
  have h64 := hM.i2
  have l1 : (trN nx i (rch nx i st)).length = (rch nx i st).length := by simp [trN]
  have l2 : (trO ot (rch nx i st)).length = (rch nx i st).length := by simp [trO]
  refine ⟨h1.lists (by rw [l1]; omega) fun xs hx => ?_, h2.lists (by rw [l2]; omega) fun xs hx => ?_⟩
  · unfold trN at hx
    obtain ⟨s, _, rfl⟩ := List.mem_map.1 hx
    rw [trR_len]; omega
  · unfold trO at hx
    obtain ⟨s, hs, rfl⟩ := List.mem_map.1 hx
    rw [(hM.row s (hM.rch_stt.2 s hs)).2.1]; omega

/-- What Trim leaves. -/
def TrimE (i2 s2 E : Int) (N O : List (List Int)) (w : World) (e : Ending) (w' : World) : Prop :=
  ∃ A n c B m d, e = .returned (.tuple #[.agg #[.int .i64 i2, .int .i64 s2, .slice A n c, .slice B m d], .int .i64 E]) ∧ Lists w' A n N ∧ Lists w' B m O ∧ Below w.heap.size w w'
theorem lists_nil (w : World) : Lists w none 0 [] := ⟨rfl, Nat.zero_le _, fun h => absurd h (by omega)⟩
theorem mach_cases {i st : Int} {n m : Nat} {nx ot : List (List Int)} (hn : nx.length = n) (hm : ot.length = m) (h : vld i st nx ot = 0) : ∃ i' st' : Nat, i = i' ∧ st = st' ∧ m = n ∧ Mok i' st' n nx ot := by
  obtain ⟨i', st', n', rfl, rfl, hM⟩ := vld_zero h
  obtain rfl : n = n' := by rw [← hn]; exact hM.nxl
  obtain rfl : m = n := by rw [← hm]; exact hM.otl
  exact ⟨i', st', rfl, rfl, rfl, hM⟩

theorem trim_both (i st : Int) (A B : Option Addr) (n c m d : Nat) (nx ot : List (List Int)) (hn : nx.length = n) (hm : ot.length = m) :
    ∃ i2 s2 E N O, (∀ W, Lists W A n nx → Lists W B m ot → Calls Try.prog 50 #[.agg #[.int .i64 i, .int .i64 st, .slice A n c, .slice B m d]] W (TrimE i2 s2 E N O W)) ∧
      (∀ W, Lists W A n nx → Lists W B m ot → Calls Try.prog 51 #[.agg #[.int .i64 i, .int .i64 st, .slice A n c, .slice B m d]] W (TrimE i2 s2 E N O W)) := by
  by_cases hv : vld i st nx ot = 0
  · obtain ⟨i, st, rfl, rfl, rfl, hM⟩ := mach_cases hn hm hv
    refine ⟨i, 0, 0, trN nx i (rch nx i st), trO ot (rch nx i st), fun W hx ho => (ptrim_ok i st m A B c d nx ot W hx ho hM).mono ?_, fun W hx ho => (rtrim_ok i st m A B c d nx ot W hx ho hM).mono ?_⟩
    · rintro e w' ⟨A', c', B', d', rfl, h1, h2, h3⟩
      obtain ⟨l1, l2⟩ := own_lists hM rfl h1 h2
      exact ⟨A', _, c', B', _, d', rfl, l1, l2, h3⟩
    · rintro e w' ⟨A', c', B', d', rfl, h1, h2, h3⟩
      obtain ⟨l1, l2⟩ := own_lists hM rfl h1 h2
      exact ⟨A', _, c', B', _, d', rfl, l1, l2, h3⟩
  · refine ⟨0, 0, vld i st nx ot, [], [], fun W hx ho => (ptrim_bad i st A B n c m d nx ot W hx ho hv).mono ?_, fun W hx ho => (rtrim_bad i st A B n c m d nx ot W hx ho hv).mono ?_⟩
    · rintro e w' ⟨rfl, h3⟩
      exact ⟨none, 0, 0, none, 0, 0, rfl, lists_nil _, lists_nil _, h3⟩
    · rintro e w' ⟨rfl, h3⟩
      exact ⟨none, 0, 0, none, 0, 0, rfl, lists_nil _, lists_nil _, h3⟩

/-- What Reach and Outputs leave. -/
def IntsE (xs : List Int) (w : World) (e : Ending) (w' : World) : Prop := ∃ A n c, e = .returned (.slice A n c) ∧ Ints w' A n xs ∧ Below w.heap.size w w'
theorem ints_nil (w : World) : Ints w none 0 [] := ⟨rfl, by omega, fun h => absurd h (by omega)⟩

theorem reach_both (i st : Int) (A B : Option Addr) (n c m d : Nat) (nx ot : List (List Int)) (hn : nx.length = n) (hm : ot.length = m) :
    ∃ xs, (∀ W, Lists W A n nx → Lists W B m ot → Calls Try.prog 56 #[.agg #[.int .i64 i, .int .i64 st, .slice A n c, .slice B m d]] W (IntsE xs W)) ∧
      (∀ W, Lists W A n nx → Lists W B m ot → Calls Try.prog 57 #[.agg #[.int .i64 i, .int .i64 st, .slice A n c, .slice B m d]] W (IntsE xs W)) := by
  by_cases hv : vld i st nx ot = 0
  · obtain ⟨i, st, rfl, rfl, rfl, hM⟩ := mach_cases hn hm hv
    have hl := hM.rch_stt.len
    have h128 := hM.n2
    refine ⟨zs (rch nx i st), fun W hx ho => (preach_ok i st m A B c d nx ot W hx ho hM).mono ?_, fun W hx ho => (rreach_ok i st m A B c d nx ot W hx ho hM).mono ?_⟩
    · rintro e w' ⟨A', c', rfl, h1, h2⟩
      exact ⟨A', _, c', rfl, h1.ints (by rw [zs_len]; omega), h2⟩
    · rintro e w' ⟨A', c', rfl, h1, h2⟩
      exact ⟨A', _, c', rfl, h1.ints (by rw [zs_len]; omega), h2⟩
  · refine ⟨[], fun W hx ho => (preach_bad i st A B n c m d nx ot W hx ho hv).mono ?_, fun W hx ho => (rreach_bad i st A B n c m d nx ot W hx ho hv).mono ?_⟩
    · rintro e w' ⟨rfl, h2⟩
      exact ⟨none, 0, 0, rfl, ints_nil _, h2⟩
    · rintro e w' ⟨rfl, h2⟩
      exact ⟨none, 0, 0, rfl, ints_nil _, h2⟩

theorem outputs_both (i st : Int) (A B : Option Addr) (n c m d : Nat) (nx ot : List (List Int)) (hn : nx.length = n) (hm : ot.length = m) :
    ∃ xs, (∀ W, Lists W A n nx → Lists W B m ot → Calls Try.prog 58 #[.agg #[.int .i64 i, .int .i64 st, .slice A n c, .slice B m d]] W (IntsE xs W)) ∧
      (∀ W, Lists W A n nx → Lists W B m ot → Calls Try.prog 59 #[.agg #[.int .i64 i, .int .i64 st, .slice A n c, .slice B m d]] W (IntsE xs W)) := by
  by_cases hv : vld i st nx ot = 0
  · obtain ⟨i, st, rfl, rfl, rfl, hM⟩ := mach_cases hn hm hv
    have hlen : ∀ (t : List (List Int)) (acc : List Int), (∀ l, l ∈ t → l.length ≤ 64) → (outL t acc).length ≤ acc.length + 64 * t.length := by
      have h1 : ∀ (r acc : List Int), (outR r acc).length ≤ acc.length + r.length := by
        intro r
        induction r with
        | nil => intro acc; exact Nat.le_refl _
        | cons x r ih =>
          intro acc
          have a := ih (insS acc x)
          have b := insS_len acc x
          show (outR r (insS acc x)).length ≤ _
          rw [List.length_cons]; omega
      intro t
      induction t with
      | nil => intro acc _; exact Nat.le_refl _
      | cons r t ih =>
        intro acc h
        have a := ih (outR r acc) fun l hl => h l (List.mem_cons_of_mem _ hl)
        have b := h1 r acc
        have c := h r List.mem_cons_self
        show (outL t (outR r acc)).length ≤ _
        rw [List.length_cons]; omega
    have hb := hlen ot [] fun l hl => by
      obtain ⟨j, hj, rfl⟩ := List.getElem_of_mem hl
      have h1 := (hM.row j (by rw [← hM.otl]; exact hj)).2.1
      rw [List.getD_eq_getElem?_getD, List.getElem?_eq_getElem hj] at h1
      have h2 : (ot[j]).length = i := h1
      have := hM.i2
      omega
    have h128 := hM.n2
    have h4 := hM.otl
    simp only [List.length_nil] at hb
    refine ⟨outL ot [], fun W hx ho => (poutputs_ok i st m A B c d nx ot W hx ho hM).mono ?_, fun W hx ho => (routputs_ok i st m A B c d nx ot W hx ho hM).mono ?_⟩
    · rintro e w' ⟨A', c', rfl, h1, h2⟩
      exact ⟨A', _, c', rfl, h1.ints (by omega), h2⟩
    · rintro e w' ⟨A', c', rfl, h1, h2, _⟩
      exact ⟨A', _, c', rfl, h1.ints (by omega), h2⟩
  · refine ⟨[], fun W hx ho => (poutputs_bad i st A B n c m d nx ot W hx ho hv).mono ?_, fun W hx ho => (routputs_bad i st A B n c m d nx ot W hx ho hv).mono ?_⟩
    · rintro e w' ⟨rfl, h2⟩
      exact ⟨none, 0, 0, rfl, ints_nil _, h2⟩
    · rintro e w' ⟨rfl, h2⟩
      exact ⟨none, 0, 0, rfl, ints_nil _, h2⟩

/-- What Traces leaves. -/
def TracE (ts : List (List Int × List Int)) (E : Int) (w : World) (e : Ending) (w' : World) : Prop := ∃ A c, e = .returned (.tuple #[.slice A ts.length c, .int .i64 E]) ∧ Trcs w' A ts.length ts ∧ Below w.heap.size w w'
theorem trs_mem {i st : Nat} {nx ot : List (List Int)} : ∀ (ws : List (List Int)) (l : List (List Int × List Int)) (t : List Int × List Int), t ∈ (trs i st nx ot ws l).1 → t ∈ l ∨ (t.1.length ≤ 1024 ∧ t.2.length ≤ 1024)
  | [], l, t, h => .inl h
  | w :: ws, l, t, h => by
    unfold trs at h
    split at h
    · rename_i hc
      rcases trs_mem ws _ t h with h | h
      · rcases List.mem_append.1 h with h | h
        · exact .inl h
        · rw [List.mem_singleton] at h
          subst h
          have := (chk_zero hc).2.2.1
          exact .inr ⟨this, by rw [runO_len]; exact this⟩
      · exact .inr h
    · simp at h

theorem traces_both (i st : Int) (A B C : Option Addr) (n c m d p e : Nat) (nx ot ws : List (List Int)) (hn : nx.length = n) (hm : ot.length = m) (hw : ws.length = p) (hp : p ≤ 10000) :
    ∃ ts E, (∀ W, Lists W A n nx → Lists W B m ot → Lists W C p ws → Calls Try.prog 52 #[.agg #[.int .i64 i, .int .i64 st, .slice A n c, .slice B m d], .slice C p e] W (TracE ts E W)) ∧
      (∀ W, Lists W A n nx → Lists W B m ot → Lists W C p ws → Calls Try.prog 53 #[.agg #[.int .i64 i, .int .i64 st, .slice A n c, .slice B m d], .slice C p e] W (TracE ts E W)) := by
  by_cases hv : vld i st nx ot = 0
  · obtain ⟨i, st, rfl, rfl, rfl, hM⟩ := mach_cases hn hm hv
    have hl := trs_len (i := i) (st := st) (nx := nx) (ot := ot) ws []
    simp only [List.length_nil] at hl
    have hr : ∀ t, t ∈ (trs i st nx ot ws []).1 → t.1.length ≤ 17592186044416 ∧ t.2.length ≤ 17592186044416 := fun t ht => by
      rcases trs_mem ws [] t ht with h | h
      · simp at h
      · omega
    refine ⟨(trs i st nx ot ws []).1, (trs i st nx ot ws []).2, fun W hx ho hW => (ptraces_ok i st m A B C c d p e nx ot ws W hx ho hM hW hp).mono ?_, fun W hx ho hW => (rtraces_ok i st m A B C c d p e nx ot ws W hx ho hM hW hp).mono ?_⟩
    · rintro e w' ⟨A', c', rfl, h1, h2⟩
      exact ⟨A', c', rfl, h1.trcs (by omega) hr, h2⟩
    · rintro e w' ⟨A', c', rfl, h1, h2⟩
      exact ⟨A', c', rfl, h1.trcs (by omega) hr, h2⟩
  · refine ⟨[], vld i st nx ot, fun W hx ho _ => (ptraces_bad i st A B C n c m d p e nx ot _ W hx ho rfl hv).mono ?_, fun W hx ho _ => (rtraces_bad i st A B C n c m d p e nx ot _ W hx ho rfl hv).mono ?_⟩
    · rintro e w' ⟨rfl, h2⟩
      exact ⟨none, 0, rfl, ⟨rfl, Nat.zero_le _, fun j h => absurd h (by simp)⟩, h2⟩
    · rintro e w' ⟨rfl, h2⟩
      exact ⟨none, 0, rfl, ⟨rfl, Nat.zero_le _, fun j h => absurd h (by simp)⟩, h2⟩
end Go.Proofs.Ytihahljpfekmbaa
