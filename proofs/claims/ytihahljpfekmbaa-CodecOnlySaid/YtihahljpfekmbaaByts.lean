/- Slices of bytes: what came in, and rows of one's own. -/
import Derived.Test.YtihahljpfekmbaaOwnL
import Derived.Test.YtihahljpfekmbaaOutsr
import Derived.Test.YtihahljpfekmbaaEncp
namespace Go.Proofs.Ytihahljpfekmbaa
open Go.RowKit

/-- The slice '.slice A n _' holds the bytes bs. -/
def Byts (w : World) (A : Option Addr) (n : Nat) (bs : List Nat) : Prop :=
  bs.length = n ∧ n ≤ 140737488355328 ∧ (0 < n → ∃ b off, A = some ⟨b, off, none⟩ ∧ b < w.heap.size ∧ ∀ j, j < n → w.cell? ⟨b, off + j, none⟩ = some (.int .u8 ((bs.getD j 0 : Nat) : Int))) ∧ ∀ b, b ∈ bs → b < 256
theorem Byts.below {w w' : World} {A : Option Addr} {n : Nat} {bs : List Nat} (h : Byts w A n bs) (hb : Below w.heap.size w w') : Byts w' A n bs :=
  ⟨h.1, h.2.1, fun hn => by
    obtain ⟨b, off, e, hlt, hc⟩ := h.2.2.1 hn
    exact ⟨b, off, e, Nat.lt_of_lt_of_le hlt hb.size, fun j hj => (hb.cell hlt).trans (hc j hj)⟩, h.2.2.2⟩
theorem Byts.at_ {w : World} {A : Option Addr} {n : Nat} {bs : List Nat} (h : Byts w A n bs) {k : Nat} (hk : k < n) :
    ∃ b off, A = some ⟨b, off, none⟩ ∧ b < w.heap.size ∧ w.cell? ⟨b, off + k, none⟩ = some (.int .u8 ((bs.getD k 0 : Nat) : Int)) ∧ bs.getD k 0 < 256 := by
  obtain ⟨b, off, e, hlt, hc⟩ := h.2.2.1 (by omega)
  refine ⟨b, off, e, hlt, hc k hk, h.2.2.2 _ ?_⟩
  rw [List.getD_eq_getElem?_getD, List.getElem?_eq_getElem (by rw [h.1]; exact hk)]; exact List.getElem_mem _
theorem Byts.tail {w : World} {A : Option Addr} {n c : Nat} {bs : List Nat} (h : Byts w A n bs) {p : Nat} (hp : p ≤ n) (hc : n ≤ c) : Byts w (if c = p then A else A.map (·.add p)) (n - p) (bs.drop p) :=
  ⟨by rw [List.length_drop, h.1], by have := h.2.1; omega, fun h0 => by
    obtain ⟨b, off, e, hlt, hcell⟩ := h.2.2.1 (by omega)
    rw [if_neg (by omega), e]
    refine ⟨b, off + p, ?_, hlt, fun j hj => ?_⟩
    · simp [Addr.add]
    · have := hcell (p + j) (by omega)
      rw [show off + p + j = off + (p + j) by omega, this]
      simp [List.getD], fun b hb => h.2.2.2 b (List.mem_of_mem_drop hb)⟩
theorem Byts.head {w : World} {A : Option Addr} {n : Nat} {bs : List Nat} (h : Byts w A n bs) {p : Nat} (hp : p ≤ n) : Byts w A p (bs.take p) :=
  ⟨by rw [List.length_take, h.1]; omega, Nat.le_trans hp h.2.1, fun h0 => by
    obtain ⟨b, off, e, hlt, hc⟩ := h.2.2.1 (by omega)
    exact ⟨b, off, e, hlt, fun j hj => by rw [hc j (by omega)]; simp [List.getD, hj]⟩, fun b hb => h.2.2.2 b (List.mem_of_mem_take hb)⟩

theorem infoy : (Try.prog.info? 5).map (fun i => (i.zero, i.size, i.bytes)) = some (some (.int .u8 0), 1, 1) := by kernel_rfl
def yv (bs : List Nat) : List Value := bs.map fun b : Nat => Value.int .u8 (b : Int)
/-- The slice value v is a row of the bytes bs in a block from base on, which the call may write. -/
def OwnedY (w : World) (base : Nat) (v : Value) (bs : List Nat) : Prop := w.ownsRow base 5 1 v bs.length (yv bs)
theorem yv_len (bs : List Nat) : (yv bs).length = bs.length := by simp [yv]
theorem OwnedY.form {w : World} {base : Nat} {v : Value} {bs : List Nat} (h : OwnedY w base v bs) : ∃ A c, v = .slice A bs.length c := by
  rcases h.2 with ⟨rfl, h0⟩ | ⟨g, cap, cur, rfl, _⟩
  · exact ⟨none, 0, by rw [h0]⟩
  · exact ⟨_, _, rfl⟩
theorem OwnedY.nil (w : World) (base : Nat) : OwnedY w base (.slice none 0 0) [] := World.ownsRow_nil _ _ _ _
theorem OwnedY.kept {w w' : World} {base : Nat} {v : Value} {bs : List Nat} (h : OwnedY w base v bs) (hb : Below w.heap.size w w') : OwnedY w' base v bs := by
  refine ⟨h.1, ?_⟩
  rcases h.2 with e | ⟨g, cap, cur, hv, hbg, hg, r⟩
  · exact .inl e
  · exact .inr ⟨g, cap, cur, hv, hbg, (hb.block g (heap_lt hg)).trans hg, r⟩
theorem OwnedY.lower {w : World} {base base' : Nat} {v : Value} {bs : List Nat} (h : OwnedY w base v bs) (hb : base' ≤ base) : OwnedY w base' v bs := by
  refine ⟨h.1, ?_⟩
  rcases h.2 with e | ⟨g, cap, cur, hv, hbg, r⟩
  · exact .inl e
  · exact .inr ⟨g, cap, cur, hv, by omega, r⟩
theorem OwnedY.byts {w : World} {base : Nat} {A : Option Addr} {n c : Nat} {bs : List Nat} (h : OwnedY w base (.slice A n c) bs) (hm : bs.length ≤ 140737488355328) (h256 : ∀ b, b ∈ bs → b < 256) : Byts w A n bs := by
  have hn : n = bs.length := by obtain ⟨A', c', e⟩ := h.form; cases e; rfl
  subst hn
  refine ⟨rfl, hm, fun h0 => ?_, h256⟩
  rcases h.2 with ⟨e, h1⟩ | ⟨g, cap, cur, e, _, hg, _⟩
  · omega
  · cases e
    refine ⟨g, 0, rfl, heap_lt hg, fun j hj => ?_⟩
    have := World.ownsRow.cellAt h j (by omega)
    rw [Nat.zero_add, this]
    simp [yv, List.getD, hj]

/-- append of one byte. -/
theorem run_append_byte {w : World} {base : Nat} {v : Value} {bs : List Nat} (h : OwnedY w base v bs) (x : Nat) (hbase : base ≤ w.heap.size) (hl : bs.length < 17592186044416) :
    ∃ A c w', (Builtin.append_ #[22, 22] 22 #[v, .slice (some ⟨w.heap.size, 0, none⟩) 1 1]).run Try.prog (w.alloc (.cells #[.int .u8 x] 5)) = .ok (.slice A (bs.length + 1) c) w' ∧
      OwnedY w' base (.slice A (bs.length + 1) c) (bs ++ [x]) ∧ Below base w w' := by
  obtain ⟨i, hi, hz0, hz1, hz2⟩ := info_parts infoy
  have hbz := alloc_below w (.cells #[.int .u8 (x : Int)] 5)
  have ho1 : (w.alloc (.cells #[.int .u8 (x : Int)] 5)).ownsRow base 5 1 v bs.length (yv bs) := h.kept hbz
  obtain ⟨v', w', hr, h1, h2, _⟩ := run_append_own (P := Try.prog) (w.alloc (.cells #[.int .u8 (x : Int)] 5)) base 22 22 5 i (.int .u8 0) 1 1 Try.underlying22 hi hz0 hz1 hz2 rfl (by decide) v _ _ ho1 ⟨w.heap.size, 0, none⟩ 1 1 [.int .u8 (x : Int)] (by simp)
    (by
      intro j u hu
      cases j with
      | zero =>
        simp at hu
        subst hu
        simp [Addr.add]
      | succ j => simp at hu)
    (by intro u hu; simp at hu; subst hu; rfl) (by unfold maxLen; omega) (by omega) (Nat.le_trans hbase hbz.size)
  have h1 : OwnedY w' base v' (bs ++ [x]) := by
    unfold OwnedY
    rw [List.length_append, show yv (bs ++ [x]) = yv bs ++ [.int .u8 (x : Int)] by simp [yv]]
    exact h1
  obtain ⟨A, c, rfl⟩ := h1.form
  rw [List.length_append] at hr h1
  exact ⟨A, c, w', hr, h1, (hbz.mono hbase).trans ((Below.refl _ _).grown h2 (Nat.le_trans hbase hbz.size) (fun k hk => (World.ownsRow.lt ho1 k hk).1))⟩
end Go.Proofs.Ytihahljpfekmbaa
