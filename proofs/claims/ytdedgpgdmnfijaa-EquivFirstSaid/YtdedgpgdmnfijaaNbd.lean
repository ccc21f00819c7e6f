/- Lemmas of the proofs of this seat, of the parts Litl, Awak9, Gr8, Eqlb, Rfsm, Rfsw, Valr, Eqdr, Eqsr. Conditions: none. -/
import Derived.Test.YtdedgpgdmnfijaaNbc
import Derived.Test.YtdedgpgdmnfijaaNbb
import Derived.Test.YtdedgpgdmnfijaaNba
section
/- Lists of words that literals make. -/
namespace Go.Proofs.Ytdedgpgdmnfijaa
open Go.RowKit

/-- The words' cells, one block each. -/
def litA (W : World) : List (List Int) → World
  | [] => W
  | x :: r => litA (W.alloc (.cells (lit x) 3)) r
/-- Their headers, from block b on. -/
def litH (b : Nat) : List (List Int) → List Value
  | [] => []
  | x :: r => .slice (some ⟨b, 0, none⟩) x.length x.length :: litH (b + 1) r
/-- The world with the list's own cells. -/
def litL (W : World) (b : Nat) (xss : List (List Int)) : World := (litA W xss).alloc (.cells (litH b xss).toArray 33)
theorem litA_below (W : World) (xss : List (List Int)) : Below W.heap.size W (litA W xss) := by
  induction xss generalizing W with
  | nil => exact Below.refl _ _
  | cons x r ih => exact (alloc_below W _).trans ((ih _).mono (by simp))
theorem litA_size (W : World) (xss : List (List Int)) : (litA W xss).heap.size = W.heap.size + xss.length := by
  induction xss generalizing W with
  | nil => rfl
  | cons x r ih =>
    show (litA (W.alloc (.cells (lit x) 3)) r).heap.size = _
    rw [ih]; simp; omega
theorem litH_len (b : Nat) (xss : List (List Int)) : (litH b xss).length = xss.length := by
  induction xss generalizing b with
  | nil => rfl
  | cons x r ih => simp [litH, ih]
theorem litH_get (b : Nat) (xss : List (List Int)) (j : Nat) (hj : j < xss.length) : (litH b xss)[j]? = some (.slice (some ⟨b + j, 0, none⟩) (xss.getD j []).length (xss.getD j []).length) := by
  induction xss generalizing b j with
  | nil => simp at hj
  | cons x r ih =>
    cases j with
    | zero => simp [litH]
    | succ j =>
      have := ih (b + 1) j (by simpa using hj)
      simp only [litH, List.getElem?_cons_succ, this]
      rw [show b + 1 + j = b + (j + 1) by omega]
      simp
theorem litA_ints (W : World) (xss : List (List Int)) (j : Nat) (hj : j < xss.length) (hl : ∀ x, x ∈ xss → x.length ≤ 1000) : Ints (litA W xss) (some ⟨W.heap.size + j, 0, none⟩) (xss.getD j []).length (xss.getD j []) := by
  induction xss generalizing W j with
  | nil => simp at hj
  | cons x r ih =>
    cases j with
    | zero =>
      have h := Ints.new W x (lit x) x.length rfl rfl (by have := hl x List.mem_cons_self; omega)
      have hb := litA_below (W.alloc (.cells (lit x) 3)) r
      exact h.below hb
    | succ j =>
      have := ih (W.alloc (.cells (lit x) 3)) j (by simpa using hj) (fun y hy => hl y (List.mem_cons_of_mem _ hy))
      have e : (W.alloc (.cells (lit x) 3)).heap.size + j = W.heap.size + (j + 1) := by simp; omega
      rw [e] at this
      show Ints (litA (W.alloc (.cells (lit x) 3)) r) _ ((x :: r).getD (j + 1) []).length ((x :: r).getD (j + 1) [])
      simpa using this
theorem litL_below (W : World) (b : Nat) (xss : List (List Int)) : Below W.heap.size W (litL W b xss) := (litA_below W xss).trans ((alloc_below _ _).mono (litA_below W xss).size)
theorem litL_size (W : World) (b : Nat) (xss : List (List Int)) : (litL W b xss).heap.size = W.heap.size + xss.length + 1 := by
  show ((litA W xss).alloc _).heap.size = _
  simp [litA_size]
theorem litL_lists (W : World) (b : Nat) (xss : List (List Int)) (n : Nat) (hb : W.heap.size = b) (hn : n = xss.length) (hl : ∀ x, x ∈ xss → x.length ≤ 1000) (hm : xss.length ≤ 1000) : ListsC (litL W b xss) (some ⟨b + n, 0, none⟩) n xss := by
  subst hn hb
  have hb := alloc_below (litA W xss) (.cells (litH W.heap.size xss).toArray 33)
  refine ⟨rfl, by omega, fun _ => ⟨W.heap.size + xss.length, 0, rfl, ?_, fun j hj => ?_⟩⟩
  · show W.heap.size + xss.length < ((litA W xss).alloc _).heap.size
    simp [litA_size]
  · refine ⟨_, _, _, ?_, Nat.le_refl _, (litA_ints W xss j hj hl).below hb⟩
    have := cell_of_row (litL W W.heap.size xss) (W.heap.size + xss.length) j (litH W.heap.size xss).toArray 33 (0, 0) (by
      have := heap_alloc_new (litA W xss) (.cells (litH W.heap.size xss).toArray 33)
      rw [litA_size] at this
      exact this)
    rw [Nat.zero_add, this]
    simpa using litH_get W.heap.size xss j hj
end Go.Proofs.Ytdedgpgdmnfijaa
end

section
/- The examples of equiv. -/
namespace Go.Proofs.Ytdedgpgdmnfijaa
open Go.RowKit

def q9aN : List (List Int) := [[1], [0]]
def q9aO : List (List Int) := [[0], [0]]
def q9bN : List (List Int) := [[1], [2], [0]]
def q9bO : List (List Int) := [[0], [0], [1]]
def q9cN : List (List Int) := [[1], [2], [0]]
def q9cO : List (List Int) := [[1], [0], [0]]
theorem q9_1 : dres 1 0 q9aN q9aO 1 0 q9bN q9bO = (some [0, 0, 0], 0) := by decide +kernel
theorem q9_2 : sres 1 0 q9bN q9bO 0 1 = (some [0, 0], 0) := by decide +kernel
theorem q9_3 : ires 1 0 q9bN q9bO 1 1 q9cN q9cO = (some [1, 2, 0], 0) := by decide +kernel
theorem q9_4 : dres 1 0 q9bN q9bO 1 1 q9cN q9cO = (none, 0) := by decide +kernel
theorem q9_5 : dres 1 0 q9aN q9aO 0 0 [] [] = (none, 2) := by decide +kernel
theorem lists_nil9 (w : World) : Lists w none 0 [] := ⟨rfl, Nat.zero_le _, fun h => absurd h (by omega)⟩
/-- Equal of a list and a literal that is equal to it. -/
theorem equal_lit9 (w : World) (A : Option Addr) (n c : Nat) (cs : Array Value) (m : Nat) (xs : List Int) (h : Ints w A n xs) (h1 : cs = lit xs) (h2 : m = xs.length) (l1 : xs.length ≤ 1000) :
    Calls Try.prog 24 #[.slice A n c, .slice (some ⟨w.heap.size, 0, none⟩) m m] (w.alloc (.cells cs 3)) fun e w' => e = .returned (.bool true) ∧ Below w.heap.size w w' := by
  refine (requal _ _ _ _ _ _ xs xs true _ (h.below (alloc_below w _)) (Ints.new w xs cs m h1 h2 (by omega)) (by simp)).mono ?_
  rintro e w' ⟨rfl, hq⟩
  exact ⟨rfl, (alloc_below w _).trans ((rd_below hq).mono (by simp))⟩

set_option maxHeartbeats 8000000 in
set_option maxRecDepth 100000 in
theorem awake9 (w : World) : Calls Try.prog 19 #[] w fun e w' => e = .returned (.bool true) ∧ Below w.heap.size w w' := by
  have zw : w.heap.size = w.heap.size := rfl
  obtain ⟨Na, hNa⟩ : ∃ Na, Na = (((w.alloc (.cells #[.int .i64 1] 3)).alloc (.cells #[.int .i64 0] 3)).alloc (.cells #[.slice (some ⟨w.heap.size, 0, none⟩) 1 1, .slice (some ⟨w.heap.size + 1, 0, none⟩) 1 1] 33)) := ⟨_, rfl⟩
  have fNa : Lists Na (some ⟨w.heap.size + 1 + 1, 0, none⟩) 2 q9aN ∧ Below w.heap.size w Na ∧ Na.heap.size = w.heap.size + 1 + 1 + 1 := by
    rw [hNa]
    exact ⟨(litL_lists w (w.heap.size) q9aN 2 zw rfl (by decide) (by decide)).lists, litL_below w (w.heap.size) q9aN, (litL_size w (w.heap.size) q9aN).trans (by rw [zw]; rfl)⟩
  obtain ⟨na, bna, zNa⟩ := fNa
  obtain ⟨Oa, hOa⟩ : ∃ Oa, Oa = (((Na.alloc (.cells #[.int .i64 0] 3)).alloc (.cells #[.int .i64 0] 3)).alloc (.cells #[.slice (some ⟨w.heap.size + 1 + 1 + 1, 0, none⟩) 1 1, .slice (some ⟨w.heap.size + 1 + 1 + 1 + 1, 0, none⟩) 1 1] 33)) := ⟨_, rfl⟩
  have fOa : Lists Oa (some ⟨w.heap.size + 1 + 1 + 1 + 1 + 1, 0, none⟩) 2 q9aO ∧ Below Na.heap.size Na Oa ∧ Oa.heap.size = w.heap.size + 1 + 1 + 1 + 1 + 1 + 1 := by
    rw [hOa]
    exact ⟨(litL_lists Na (w.heap.size + 1 + 1 + 1) q9aO 2 zNa rfl (by decide) (by decide)).lists, litL_below Na (w.heap.size + 1 + 1 + 1) q9aO, (litL_size Na (w.heap.size + 1 + 1 + 1) q9aO).trans (by rw [zNa]; rfl)⟩
  obtain ⟨oa, boa, zOa⟩ := fOa
  obtain ⟨Xa, hXa⟩ : ∃ Xa, Xa = Oa.alloc (.cells #[.int .i64 1, .int .i64 0, .slice (some ⟨w.heap.size + 1 + 1, 0, none⟩) 2 2, .slice (some ⟨w.heap.size + 1 + 1 + 1 + 1 + 1, 0, none⟩) 2 2] 24) := ⟨_, rfl⟩
  have bxa := alloc_below Oa (.cells #[.int .i64 1, .int .i64 0, .slice (some ⟨w.heap.size + 1 + 1, 0, none⟩) 2 2, .slice (some ⟨w.heap.size + 1 + 1 + 1 + 1 + 1, 0, none⟩) 2 2] 24)
  have ma := mealy_box Oa (.int .i64 1) (.int .i64 0) (.slice (some ⟨w.heap.size + 1 + 1, 0, none⟩) 2 2) (.slice (some ⟨w.heap.size + 1 + 1 + 1 + 1 + 1, 0, none⟩) 2 2)
  rw [← hXa] at bxa ma
  rw [zOa] at ma
  have zXa : Xa.heap.size = w.heap.size + 1 + 1 + 1 + 1 + 1 + 1 + 1 := by rw [hXa]; simp [zOa]
  have baa := bt bna (bt boa bxa)
  have na := na.below (bt boa bxa)
  have oa := oa.below bxa
  obtain ⟨Nb, hNb⟩ : ∃ Nb, Nb = ((((Xa.alloc (.cells #[.int .i64 1] 3)).alloc (.cells #[.int .i64 2] 3)).alloc (.cells #[.int .i64 0] 3)).alloc (.cells #[.slice (some ⟨w.heap.size + 1 + 1 + 1 + 1 + 1 + 1 + 1, 0, none⟩) 1 1, .slice (some ⟨w.heap.size + 1 + 1 + 1 + 1 + 1 + 1 + 1 + 1, 0, none⟩) 1 1, .slice (some ⟨w.heap.size + 1 + 1 + 1 + 1 + 1 + 1 + 1 + 1 + 1, 0, none⟩) 1 1] 33)) := ⟨_, rfl⟩
  have fNb : Lists Nb (some ⟨w.heap.size + 1 + 1 + 1 + 1 + 1 + 1 + 1 + 1 + 1 + 1, 0, none⟩) 3 q9bN ∧ Below Xa.heap.size Xa Nb ∧ Nb.heap.size = w.heap.size + 1 + 1 + 1 + 1 + 1 + 1 + 1 + 1 + 1 + 1 + 1 := by
    rw [hNb]
    exact ⟨(litL_lists Xa (w.heap.size + 1 + 1 + 1 + 1 + 1 + 1 + 1) q9bN 3 zXa rfl (by decide) (by decide)).lists, litL_below Xa (w.heap.size + 1 + 1 + 1 + 1 + 1 + 1 + 1) q9bN, (litL_size Xa (w.heap.size + 1 + 1 + 1 + 1 + 1 + 1 + 1) q9bN).trans (by rw [zXa]; rfl)⟩
  obtain ⟨nb, bnb, zNb⟩ := fNb
  obtain ⟨Ob, hOb⟩ : ∃ Ob, Ob = ((((Nb.alloc (.cells #[.int .i64 0] 3)).alloc (.cells #[.int .i64 0] 3)).alloc (.cells #[.int .i64 1] 3)).alloc (.cells #[.slice (some ⟨w.heap.size + 1 + 1 + 1 + 1 + 1 + 1 + 1 + 1 + 1 + 1 + 1, 0, none⟩) 1 1, .slice (some ⟨w.heap.size + 1 + 1 + 1 + 1 + 1 + 1 + 1 + 1 + 1 + 1 + 1 + 1, 0, none⟩) 1 1, .slice (some ⟨w.heap.size + 1 + 1 + 1 + 1 + 1 + 1 + 1 + 1 + 1 + 1 + 1 + 1 + 1, 0, none⟩) 1 1] 33)) := ⟨_, rfl⟩
  have fOb : Lists Ob (some ⟨w.heap.size + 1 + 1 + 1 + 1 + 1 + 1 + 1 + 1 + 1 + 1 + 1 + 1 + 1 + 1, 0, none⟩) 3 q9bO ∧ Below Nb.heap.size Nb Ob ∧ Ob.heap.size = w.heap.size + 1 + 1 + 1 + 1 + 1 + 1 + 1 + 1 + 1 + 1 + 1 + 1 + 1 + 1 + 1 := by
    rw [hOb]
    exact ⟨(litL_lists Nb (w.heap.size + 1 + 1 + 1 + 1 + 1 + 1 + 1 + 1 + 1 + 1 + 1) q9bO 3 zNb rfl (by decide) (by decide)).lists, litL_below Nb (w.heap.size + 1 + 1 + 1 + 1 + 1 + 1 + 1 + 1 + 1 + 1 + 1) q9bO, (litL_size Nb (w.heap.size + 1 + 1 + 1 + 1 + 1 + 1 + 1 + 1 + 1 + 1 + 1) q9bO).trans (by rw [zNb]; rfl)⟩
  obtain ⟨ob, bob, zOb⟩ := fOb
  obtain ⟨Xb, hXb⟩ : ∃ Xb, Xb = Ob.alloc (.cells #[.int .i64 1, .int .i64 0, .slice (some ⟨w.heap.size + 1 + 1 + 1 + 1 + 1 + 1 + 1 + 1 + 1 + 1, 0, none⟩) 3 3, .slice (some ⟨w.heap.size + 1 + 1 + 1 + 1 + 1 + 1 + 1 + 1 + 1 + 1 + 1 + 1 + 1 + 1, 0, none⟩) 3 3] 24) := ⟨_, rfl⟩
  have bxb := alloc_below Ob (.cells #[.int .i64 1, .int .i64 0, .slice (some ⟨w.heap.size + 1 + 1 + 1 + 1 + 1 + 1 + 1 + 1 + 1 + 1, 0, none⟩) 3 3, .slice (some ⟨w.heap.size + 1 + 1 + 1 + 1 + 1 + 1 + 1 + 1 + 1 + 1 + 1 + 1 + 1 + 1, 0, none⟩) 3 3] 24)
  have mb := mealy_box Ob (.int .i64 1) (.int .i64 0) (.slice (some ⟨w.heap.size + 1 + 1 + 1 + 1 + 1 + 1 + 1 + 1 + 1 + 1, 0, none⟩) 3 3) (.slice (some ⟨w.heap.size + 1 + 1 + 1 + 1 + 1 + 1 + 1 + 1 + 1 + 1 + 1 + 1 + 1 + 1, 0, none⟩) 3 3)
  rw [← hXb] at bxb mb
  rw [zOb] at mb
  have zXb : Xb.heap.size = w.heap.size + 1 + 1 + 1 + 1 + 1 + 1 + 1 + 1 + 1 + 1 + 1 + 1 + 1 + 1 + 1 + 1 := by rw [hXb]; simp [zOb]
  have bab := bt bnb (bt bob bxb)
  have nb := nb.below (bt bob bxb)
  have ob := ob.below bxb
  obtain ⟨Nc, hNc⟩ : ∃ Nc, Nc = ((((Xb.alloc (.cells #[.int .i64 1] 3)).alloc (.cells #[.int .i64 2] 3)).alloc (.cells #[.int .i64 0] 3)).alloc (.cells #[.slice (some ⟨w.heap.size + 1 + 1 + 1 + 1 + 1 + 1 + 1 + 1 + 1 + 1 + 1 + 1 + 1 + 1 + 1 + 1, 0, none⟩) 1 1, .slice (some ⟨w.heap.size + 1 + 1 + 1 + 1 + 1 + 1 + 1 + 1 + 1 + 1 + 1 + 1 + 1 + 1 + 1 + 1 + 1, 0, none⟩) 1 1, .slice (some ⟨w.heap.size + 1 + 1 + 1 + 1 + 1 + 1 + 1 + 1 + 1 + 1 + 1 + 1 + 1 + 1 + 1 + 1 + 1 + 1, 0, none⟩) 1 1] 33)) := ⟨_, rfl⟩
  have fNc : Lists Nc (some ⟨w.heap.size + 1 + 1 + 1 + 1 + 1 + 1 + 1 + 1 + 1 + 1 + 1 + 1 + 1 + 1 + 1 + 1 + 1 + 1 + 1, 0, none⟩) 3 q9cN ∧ Below Xb.heap.size Xb Nc ∧ Nc.heap.size = w.heap.size + 1 + 1 + 1 + 1 + 1 + 1 + 1 + 1 + 1 + 1 + 1 + 1 + 1 + 1 + 1 + 1 + 1 + 1 + 1 + 1 := by
    rw [hNc]
    exact ⟨(litL_lists Xb (w.heap.size + 1 + 1 + 1 + 1 + 1 + 1 + 1 + 1 + 1 + 1 + 1 + 1 + 1 + 1 + 1 + 1) q9cN 3 zXb rfl (by decide) (by decide)).lists, litL_below Xb (w.heap.size + 1 + 1 + 1 + 1 + 1 + 1 + 1 + 1 + 1 + 1 + 1 + 1 + 1 + 1 + 1 + 1) q9cN, (litL_size Xb (w.heap.size + 1 + 1 + 1 + 1 + 1 + 1 + 1 + 1 + 1 + 1 + 1 + 1 + 1 + 1 + 1 + 1) q9cN).trans (by rw [zXb]; rfl)⟩
  obtain ⟨nc, bnc, zNc⟩ := fNc
  obtain ⟨Oc, hOc⟩ : ∃ Oc, Oc = ((((Nc.alloc (.cells #[.int .i64 1] 3)).alloc (.cells #[.int .i64 0] 3)).alloc (.cells #[.int .i64 0] 3)).alloc (.cells #[.slice (some ⟨w.heap.size + 1 + 1 + 1 + 1 + 1 + 1 + 1 + 1 + 1 + 1 + 1 + 1 + 1 + 1 + 1 + 1 + 1 + 1 + 1 + 1, 0, none⟩) 1 1, .slice (some ⟨w.heap.size + 1 + 1 + 1 + 1 + 1 + 1 + 1 + 1 + 1 + 1 + 1 + 1 + 1 + 1 + 1 + 1 + 1 + 1 + 1 + 1 + 1, 0, none⟩) 1 1, .slice (some ⟨w.heap.size + 1 + 1 + 1 + 1 + 1 + 1 + 1 + 1 + 1 + 1 + 1 + 1 + 1 + 1 + 1 + 1 + 1 + 1 + 1 + 1 + 1 + 1, 0, none⟩) 1 1] 33)) := ⟨_, rfl⟩
  have fOc : Lists Oc (some ⟨w.heap.size + 1 + 1 + 1 + 1 + 1 + 1 + 1 + 1 + 1 + 1 + 1 + 1 + 1 + 1 + 1 + 1 + 1 + 1 + 1 + 1 + 1 + 1 + 1, 0, none⟩) 3 q9cO ∧ Below Nc.heap.size Nc Oc ∧ Oc.heap.size = w.heap.size + 1 + 1 + 1 + 1 + 1 + 1 + 1 + 1 + 1 + 1 + 1 + 1 + 1 + 1 + 1 + 1 + 1 + 1 + 1 + 1 + 1 + 1 + 1 + 1 := by
    rw [hOc]
    exact ⟨(litL_lists Nc (w.heap.size + 1 + 1 + 1 + 1 + 1 + 1 + 1 + 1 + 1 + 1 + 1 + 1 + 1 + 1 + 1 + 1 + 1 + 1 + 1 + 1) q9cO 3 zNc rfl (by decide) (by decide)).lists, litL_below Nc (w.heap.size + 1 + 1 + 1 + 1 + 1 + 1 + 1 + 1 + 1 + 1 + 1 + 1 + 1 + 1 + 1 + 1 + 1 + 1 + 1 + 1) q9cO, (litL_size Nc (w.heap.size + 1 + 1 + 1 + 1 + 1 + 1 + 1 + 1 + 1 + 1 + 1 + 1 + 1 + 1 + 1 + 1 + 1 + 1 + 1 + 1) q9cO).trans (by rw [zNc]; rfl)⟩
  obtain ⟨oc, boc, zOc⟩ := fOc
  obtain ⟨Xc, hXc⟩ : ∃ Xc, Xc = Oc.alloc (.cells #[.int .i64 1, .int .i64 1, .slice (some ⟨w.heap.size + 1 + 1 + 1 + 1 + 1 + 1 + 1 + 1 + 1 + 1 + 1 + 1 + 1 + 1 + 1 + 1 + 1 + 1 + 1, 0, none⟩) 3 3, .slice (some ⟨w.heap.size + 1 + 1 + 1 + 1 + 1 + 1 + 1 + 1 + 1 + 1 + 1 + 1 + 1 + 1 + 1 + 1 + 1 + 1 + 1 + 1 + 1 + 1 + 1, 0, none⟩) 3 3] 24) := ⟨_, rfl⟩
  have bxc := alloc_below Oc (.cells #[.int .i64 1, .int .i64 1, .slice (some ⟨w.heap.size + 1 + 1 + 1 + 1 + 1 + 1 + 1 + 1 + 1 + 1 + 1 + 1 + 1 + 1 + 1 + 1 + 1 + 1 + 1, 0, none⟩) 3 3, .slice (some ⟨w.heap.size + 1 + 1 + 1 + 1 + 1 + 1 + 1 + 1 + 1 + 1 + 1 + 1 + 1 + 1 + 1 + 1 + 1 + 1 + 1 + 1 + 1 + 1 + 1, 0, none⟩) 3 3] 24)
  have mc := mealy_box Oc (.int .i64 1) (.int .i64 1) (.slice (some ⟨w.heap.size + 1 + 1 + 1 + 1 + 1 + 1 + 1 + 1 + 1 + 1 + 1 + 1 + 1 + 1 + 1 + 1 + 1 + 1 + 1, 0, none⟩) 3 3) (.slice (some ⟨w.heap.size + 1 + 1 + 1 + 1 + 1 + 1 + 1 + 1 + 1 + 1 + 1 + 1 + 1 + 1 + 1 + 1 + 1 + 1 + 1 + 1 + 1 + 1 + 1, 0, none⟩) 3 3)
  rw [← hXc] at bxc mc
  rw [zOc] at mc
  have zXc : Xc.heap.size = w.heap.size + 1 + 1 + 1 + 1 + 1 + 1 + 1 + 1 + 1 + 1 + 1 + 1 + 1 + 1 + 1 + 1 + 1 + 1 + 1 + 1 + 1 + 1 + 1 + 1 + 1 := by rw [hXc]; simp [zOc]
  have bac := bt bnc (bt boc bxc)
  have nc := nc.below (bt boc bxc)
  have oc := oc.below bxc
  have nA := na.below (bt bab bac)
  have oA := oa.below (bt bab bac)
  have mA := ma.on9 (bt bab bac)
  have nB := nb.below bac
  have oB := ob.below bac
  have mB := mb.on9 bac
  have b0 : Below w.heap.size w Xc := bt baa (bt bab bac)
  have HW : Hid (Xc = (((((((((((((((((((((((((w.alloc (.cells #[.int .i64 1] 3)).alloc (.cells #[.int .i64 0] 3)).alloc (.cells #[.slice (some ⟨w.heap.size, 0, none⟩) 1 1, .slice (some ⟨w.heap.size + 1, 0, none⟩) 1 1] 33)).alloc (.cells #[.int .i64 0] 3)).alloc (.cells #[.int .i64 0] 3)).alloc (.cells #[.slice (some ⟨w.heap.size + 1 + 1 + 1, 0, none⟩) 1 1, .slice (some ⟨w.heap.size + 1 + 1 + 1 + 1, 0, none⟩) 1 1] 33)).alloc (.cells #[.int .i64 1, .int .i64 0, .slice (some ⟨w.heap.size + 1 + 1, 0, none⟩) 2 2, .slice (some ⟨w.heap.size + 1 + 1 + 1 + 1 + 1, 0, none⟩) 2 2] 24)).alloc (.cells #[.int .i64 1] 3)).alloc (.cells #[.int .i64 2] 3)).alloc (.cells #[.int .i64 0] 3)).alloc (.cells #[.slice (some ⟨w.heap.size + 1 + 1 + 1 + 1 + 1 + 1 + 1, 0, none⟩) 1 1, .slice (some ⟨w.heap.size + 1 + 1 + 1 + 1 + 1 + 1 + 1 + 1, 0, none⟩) 1 1, .slice (some ⟨w.heap.size + 1 + 1 + 1 + 1 + 1 + 1 + 1 + 1 + 1, 0, none⟩) 1 1] 33)).alloc (.cells #[.int .i64 0] 3)).alloc (.cells #[.int .i64 0] 3)).alloc (.cells #[.int .i64 1] 3)).alloc (.cells #[.slice (some ⟨w.heap.size + 1 + 1 + 1 + 1 + 1 + 1 + 1 + 1 + 1 + 1 + 1, 0, none⟩) 1 1, .slice (some ⟨w.heap.size + 1 + 1 + 1 + 1 + 1 + 1 + 1 + 1 + 1 + 1 + 1 + 1, 0, none⟩) 1 1, .slice (some ⟨w.heap.size + 1 + 1 + 1 + 1 + 1 + 1 + 1 + 1 + 1 + 1 + 1 + 1 + 1, 0, none⟩) 1 1] 33)).alloc (.cells #[.int .i64 1, .int .i64 0, .slice (some ⟨w.heap.size + 1 + 1 + 1 + 1 + 1 + 1 + 1 + 1 + 1 + 1, 0, none⟩) 3 3, .slice (some ⟨w.heap.size + 1 + 1 + 1 + 1 + 1 + 1 + 1 + 1 + 1 + 1 + 1 + 1 + 1 + 1, 0, none⟩) 3 3] 24)).alloc (.cells #[.int .i64 1] 3)).alloc (.cells #[.int .i64 2] 3)).alloc (.cells #[.int .i64 0] 3)).alloc (.cells #[.slice (some ⟨w.heap.size + 1 + 1 + 1 + 1 + 1 + 1 + 1 + 1 + 1 + 1 + 1 + 1 + 1 + 1 + 1 + 1, 0, none⟩) 1 1, .slice (some ⟨w.heap.size + 1 + 1 + 1 + 1 + 1 + 1 + 1 + 1 + 1 + 1 + 1 + 1 + 1 + 1 + 1 + 1 + 1, 0, none⟩) 1 1, .slice (some ⟨w.heap.size + 1 + 1 + 1 + 1 + 1 + 1 + 1 + 1 + 1 + 1 + 1 + 1 + 1 + 1 + 1 + 1 + 1 + 1, 0, none⟩) 1 1] 33)).alloc (.cells #[.int .i64 1] 3)).alloc (.cells #[.int .i64 0] 3)).alloc (.cells #[.int .i64 0] 3)).alloc (.cells #[.slice (some ⟨w.heap.size + 1 + 1 + 1 + 1 + 1 + 1 + 1 + 1 + 1 + 1 + 1 + 1 + 1 + 1 + 1 + 1 + 1 + 1 + 1 + 1, 0, none⟩) 1 1, .slice (some ⟨w.heap.size + 1 + 1 + 1 + 1 + 1 + 1 + 1 + 1 + 1 + 1 + 1 + 1 + 1 + 1 + 1 + 1 + 1 + 1 + 1 + 1 + 1, 0, none⟩) 1 1, .slice (some ⟨w.heap.size + 1 + 1 + 1 + 1 + 1 + 1 + 1 + 1 + 1 + 1 + 1 + 1 + 1 + 1 + 1 + 1 + 1 + 1 + 1 + 1 + 1 + 1, 0, none⟩) 1 1] 33)).alloc (.cells #[.int .i64 1, .int .i64 1, .slice (some ⟨w.heap.size + 1 + 1 + 1 + 1 + 1 + 1 + 1 + 1 + 1 + 1 + 1 + 1 + 1 + 1 + 1 + 1 + 1 + 1 + 1, 0, none⟩) 3 3, .slice (some ⟨w.heap.size + 1 + 1 + 1 + 1 + 1 + 1 + 1 + 1 + 1 + 1 + 1 + 1 + 1 + 1 + 1 + 1 + 1 + 1 + 1 + 1 + 1 + 1 + 1, 0, none⟩) 3 3] 24))) := Lib.hid (by rw [hXc, hOc, hNc, hXb, hOb, hNb, hXa, hOa, hNa])
  have HN1 := Lib.hid (fun (W : World) (h : Below Xc.heap.size Xc W) => nA.below h)
  have HO1 := Lib.hid (fun (W : World) (h : Below Xc.heap.size Xc W) => oA.below h)
  have HN2 := Lib.hid (fun (W : World) (h : Below Xc.heap.size Xc W) => nB.below h)
  have HO2 := Lib.hid (fun (W : World) (h : Below Xc.heap.size Xc W) => oB.below h)
  have HN3 := Lib.hid (fun (W : World) (h : Below Xc.heap.size Xc W) => nc.below h)
  have HO3 := Lib.hid (fun (W : World) (h : Below Xc.heap.size Xc W) => oc.below h)
  have HM1 := Lib.hid (fun (W : World) (h : Below Xc.heap.size Xc W) => mA.on9 h)
  have HM2 := Lib.hid (fun (W : World) (h : Below Xc.heap.size Xc W) => mB.on9 h)
  have HM3 := Lib.hid (fun (W : World) (h : Below Xc.heap.size Xc W) => mc.on9 h)
  obtain ⟨p0, p1, p2, p3, _⟩ := mA.cells
  obtain ⟨q0, q1, q2, q3, _⟩ := mB.cells
  rw [HW.out] at p0 p1 p2 p3 q0 q1 q2 q3
  have hbc := Below.refl Xc.heap.size Xc
  clear hXc hOc hNc hXb hOb hNb hXa hOa hNa na oa ma nb ob mb nc oc mc nA oA mA nB oB mB bna boa bxa baa bnb bob bxb bab bnc boc bxc bac zNa zOa zXa zNb zOb zXb zNc zOc zXc zw
  go_enter Try.func19, Try.ntmps19
  go_wp2_with fail
  rw [← HW.out]
  refine (pdist 1 0 1 0 _ _ _ _ 2 2 2 2 3 3 3 3 q9aN q9aO q9bN q9bO _ (HN1.out _ hbc) (HO1.out _ hbc) (HN2.out _ hbc) (HO2.out _ hbc)).mono ?_
  rintro e w1 ⟨A1, c1, rfl, h1, a1⟩
  rw [q9_1] at h1 ⊢
  have h1 := Owned.ints h1 (by simp)
  have hbc := bt hbc a1
  clear p0 p1 p2 p3 q0 q1 q2 q3 a1
  obtain ⟨q0, q1, q2, q3, _⟩ := (HM2.out _ hbc).cells
  go_wp2_with fail
  refine (pstates 1 0 _ _ 3 3 3 3 q9bN q9bO 0 1 _ (HN2.out _ hbc) (HO2.out _ hbc)).mono ?_
  rintro e w2 ⟨A2, c2, rfl, h2, a2⟩
  rw [q9_2] at h2 ⊢
  have h2 := Owned.ints h2 (by simp)
  have h1 := h1.below a2
  have hbc := bt hbc a2
  clear q0 q1 q2 q3 a2
  obtain ⟨p0, p1, p2, p3, _⟩ := (HM1.out _ hbc).cells
  obtain ⟨q0, q1, q2, q3, _⟩ := (HM2.out _ hbc).cells
  go_wp2_with fail
  refine (pupto 1 0 1 0 _ _ _ _ 2 2 2 2 3 3 3 3 q9aN q9aO q9bN q9bO 2 _ (HN1.out _ hbc) (HO1.out _ hbc) (HN2.out _ hbc) (HO2.out _ hbc)).mono ?_
  rintro e w3 ⟨rfl, a3⟩
  rw [q9_1]
  have u2 : upb (some [0, 0, 0], 0) 2 = true := by decide
  rw [u2]
  have h1 := h1.below a3
  have h2 := h2.below a3
  have hbc := bt hbc a3
  clear p0 p1 p2 p3 q0 q1 q2 q3 a3 u2
  obtain ⟨p0, p1, p2, p3, _⟩ := (HM1.out _ hbc).cells
  obtain ⟨q0, q1, q2, q3, _⟩ := (HM2.out _ hbc).cells
  go_wp2_with fail
  refine (pupto 1 0 1 0 _ _ _ _ 2 2 2 2 3 3 3 3 q9aN q9aO q9bN q9bO 3 _ (HN1.out _ hbc) (HO1.out _ hbc) (HN2.out _ hbc) (HO2.out _ hbc)).mono ?_
  rintro e w4 ⟨rfl, a4⟩
  rw [q9_1]
  have u3 : upb (some [0, 0, 0], 0) 3 = false := by decide
  rw [u3]
  have h1 := h1.below a4
  have h2 := h2.below a4
  have hbc := bt hbc a4
  clear p0 p1 p2 p3 q0 q1 q2 q3 a4 u3
  obtain ⟨q0, q1, q2, q3, _⟩ := (HM2.out _ hbc).cells
  obtain ⟨r0, r1, r2, r3, _⟩ := (HM3.out _ hbc).cells
  go_wp2_with fail
  refine (piso 1 0 1 1 _ _ _ _ 3 3 3 3 3 3 3 3 q9bN q9bO q9cN q9cO _ (HN2.out _ hbc) (HO2.out _ hbc) (HN3.out _ hbc) (HO3.out _ hbc)).mono ?_
  rintro e w5 ⟨A5, c5, rfl, h5, a5⟩
  rw [q9_3] at h5 ⊢
  have h5 := Owned.ints h5 (by simp)
  have h1 := h1.below a5
  have h2 := h2.below a5
  have hbc := bt hbc a5
  clear q0 q1 q2 q3 r0 r1 r2 r3 a5
  obtain ⟨q0, q1, q2, q3, _⟩ := (HM2.out _ hbc).cells
  obtain ⟨r0, r1, r2, r3, _⟩ := (HM3.out _ hbc).cells
  go_wp2_with fail
  refine (pequ 1 0 1 1 _ _ _ _ 3 3 3 3 3 3 3 3 q9bN q9bO q9cN q9cO _ (HN2.out _ hbc) (HO2.out _ hbc) (HN3.out _ hbc) (HO3.out _ hbc)).mono ?_
  rintro e w6 ⟨rfl, a6⟩
  rw [q9_4]
  have u4 : eqb (none, 0) = true := by decide
  rw [u4]
  have h1 := h1.below a6
  have h2 := h2.below a6
  have h5 := h5.below a6
  have hbc := bt hbc a6
  clear q0 q1 q2 q3 r0 r1 r2 r3 a6 u4
  obtain ⟨p0, p1, p2, p3, _⟩ := (HM1.out _ hbc).cells
  go_wp2_with fail
  refine (pequ 1 0 0 0 _ _ none none 2 2 2 2 0 0 0 0 q9aN q9aO [] [] _ (HN1.out _ hbc) (HO1.out _ hbc) (lists_nil9 _) (lists_nil9 _)).mono ?_
  rintro e w7 ⟨rfl, a7⟩
  rw [q9_5]
  have u5 : eqb (none, 2) = false := by decide
  rw [u5]
  have h1 := h1.below a7
  have h2 := h2.below a7
  have h5 := h5.below a7
  have hbc := bt hbc a7
  clear p0 p1 p2 p3 a7 u5
  go_wp2_with fail
  refine (equal_lit9 _ _ _ _ _ 3 [0, 0, 0] h1 rfl rfl (by decide)).mono ?_
  rintro e w10 ⟨rfl, b10⟩
  have h2 := h2.below b10
  have h5 := h5.below b10
  go_wp2_with fail
  refine (equal_lit9 _ _ _ _ _ 2 [0, 0] h2 rfl rfl (by decide)).mono ?_
  rintro e w11 ⟨rfl, b11⟩
  have h5 := h5.below b11
  go_wp2_with fail
  refine (equal_lit9 _ _ _ _ _ 3 [1, 2, 0] h5 rfl rfl (by decide)).mono ?_
  rintro e w12 ⟨rfl, b12⟩
  have hbc := bt hbc (bt b10 (bt b11 b12))
  go_wp2
  go_ret
  exact ⟨rfl, bt b0 hbc⟩
end Go.Proofs.Ytdedgpgdmnfijaa
end

section
/- Great of the laws of minimize. -/
namespace Go.Proofs.Ytdedgpgdmnfijaa
open Go.RowKit

def SomeB (w : World) (e : Ending) (w' : World) : Prop := ∃ b : Bool, e = .returned (.bool b) ∧ Below w.heap.size w w'
set_option maxHeartbeats 1000000 in
theorem rgreat8 (i st : Int) (A B : Option Addr) (n c m d : Nat) (nx ot : List (List Int)) (w : World) (hx : Lists w A n nx) (ho : Lists w B m ot) :
    Calls Try.prog 12 #[.agg #[.int .i64 i, .int .i64 st, .slice A n c, .slice B m d]] w (SomeB w) := by
  have hb0 := alloc_below w (.cells #[.int .i64 i, .int .i64 st, .slice A n c, .slice B m d] 24)
  have hB := mealy_box w (.int .i64 i) (.int .i64 st) (.slice A n c) (.slice B m d)
  have hn := hx.2.1
  have hm := ho.2.1
  by_cases h1 : 12 < n
  · have d1 : decide ((12 : Int) < (n : Int)) = true := by simp; omega
    go_enter Try.func12, Try.ntmps12
    go_wp2
    go_ret
    exact ⟨_, rfl, hb0⟩
  · have d1 : decide ((12 : Int) < (n : Int)) = false := by simp; omega
    by_cases h2 : 12 < m
    · have d2 : decide ((12 : Int) < (m : Int)) = true := by simp; omega
      go_enter Try.func12, Try.ntmps12
      go_wp2
      go_ret
      exact ⟨_, rfl, hb0⟩
    · have d2 : decide ((12 : Int) < (m : Int)) = false := by simp; omega
      by_cases h3 : 6 < i
      · have d3 : decide ((6 : Int) < i) = true := by simpa using h3
        go_enter Try.func12, Try.ntmps12
        go_wp2
        go_ret
        exact ⟨_, rfl, hb0⟩
      · have d3 : decide ((6 : Int) < i) = false := by simpa using h3
        go_enter Try.func12, Try.ntmps12
        go_wp2
        generalize w.alloc (.cells #[.int .i64 i, .int .i64 st, .slice A n c, .slice B m d] 24) = w1 at hb0 hB ⊢
        obtain ⟨k0, k1, k2, k3, _⟩ := hB.cells
        clear hB d1 d2 d3
        go_loop [23] (fun kv => ∃ k : Nat, k ≤ n ∧ kv = .int .i64 k) (fun kv => n - (intOf kv).toNat)
        case atStart => exact ⟨0, Nat.zero_le _, rfl⟩
        case round =>
          obtain ⟨k, hk, rfl⟩ := hrel
          by_cases hlt : k < n
          · obtain ⟨g1, o1, A1, n1, c1, rfl, hg1, hd1, hr1⟩ := hx.at_ hlt
            have e1 := (hb0.cell (p := ⟨g1, o1 + k, none⟩) hg1).trans hd1
            clear hd1
            go_wp2
            · go_ret
              exact ⟨_, rfl, hb0⟩
            · go_round
              case rel => exact ⟨k + 1, by omega, by go_num⟩
              case measure => simp [intOf]; omega
          · go_wp2
            go_loop [37] (fun kv => ∃ k : Nat, k ≤ m ∧ kv = .int .i64 k) (fun kv => m - (intOf kv).toNat)
            case atStart => exact ⟨0, Nat.zero_le _, rfl⟩
            case round =>
              obtain ⟨k, hk, rfl⟩ := hrel
              by_cases hlt : k < m
              · obtain ⟨g1, o1, A1, n1, c1, rfl, hg1, hd1, hr1⟩ := ho.at_ hlt
                have e1 := (hb0.cell (p := ⟨g1, o1 + k, none⟩) hg1).trans hd1
                clear hd1
                go_wp2
                · go_ret
                  exact ⟨_, rfl, hb0⟩
                · go_round
                  case rel => exact ⟨k + 1, by omega, by go_num⟩
                  case measure => simp [intOf]; omega
              · go_wp2
                go_ret
                exact ⟨_, rfl, hb0⟩
end Go.Proofs.Ytdedgpgdmnfijaa
end

section
/- How long a distinguishing word is. -/
namespace Go.Proofs.Ytdedgpgdmnfijaa

theorem srch_len {nx1 nx2 ot1 ot2 : List (List Int)} {i n m s t st1 st2 : Nat} (hM : Mok i st1 n nx1 ot1) (hN : Mok i st2 m nx2 ot2) : ∀ (k : Nat) (E : List Ent) (j : Nat), Ens n m s t E → ∀ u, srch nx1 nx2 ot1 ot2 i k E j = some u → u.length ≤ n * m
  | 0, _, _, _, u, h => by simp [srch] at h
  | k + 1, E, j, hE, u, h => by
    rw [srch] at h
    by_cases hj : j < E.length
    · rw [if_pos hj] at h
      cases hd : fD ot1 ot2 (E.getD j Ent.zero) i with
      | some x =>
        rw [hd] at h
        injection h with h
        have h1 := hE.wl j hj
        have h2 := hE.len
        rw [← h, List.length_append]
        show _ + 1 ≤ _
        omega
      | none =>
        rw [hd] at h
        exact srch_len hM hN k _ _ (addS_ens hM hN hE hj i (Nat.le_refl _)) u h
    · rw [if_neg hj] at h; exact absurd h (by simp)
theorem dst_len {nx1 nx2 ot1 ot2 : List (List Int)} {i n m s t st1 st2 : Nat} (hM : Mok i st1 n nx1 ot1) (hN : Mok i st2 m nx2 ot2) (hs : s < n) (ht : t < m) : ((dst nx1 ot1 nx2 ot2 i n m s t).getD []).length ≤ 16384 := by
  have h1 : n * m ≤ 16384 := Nat.mul_le_mul hM.n2 hN.n2
  cases h : dst nx1 ot1 nx2 ot2 i n m s t with
  | none => exact Nat.zero_le _
  | some u =>
    have := srch_len hM hN _ _ _ (Ens.one hs ht) u h
    show u.length ≤ _
    omega
theorem dres_len (i1 st1 : Int) (nx1 ot1 : List (List Int)) (i2 st2 : Int) (nx2 ot2 : List (List Int)) : ((dres i1 st1 nx1 ot1 i2 st2 nx2 ot2).1.getD []).length ≤ 16384 := by
  unfold dres
  by_cases h : chk2 i1 st1 nx1 ot1 i2 st2 nx2 ot2 = 0
  · rw [if_pos h]
    obtain ⟨v1, v2, rfl⟩ := chk2_zero h
    obtain ⟨i', s', n', rfl, rfl, hM⟩ := vld_zero v1
    obtain ⟨i'', s'', n'', e1, rfl, hN⟩ := vld_zero v2
    obtain rfl : i' = i'' := by omega
    rw [hM.nxl, hN.nxl]
    exact dst_len hM hN hM.st hN.st
  · rw [if_neg h]; exact Nat.zero_le _
theorem sres_len (i st : Int) (nx ot : List (List Int)) (s t : Int) : ((sres i st nx ot s t).1.getD []).length ≤ 16384 := by
  unfold sres
  by_cases h : vld i st nx ot = 0
  · rw [if_neg (by simp [h])]
    obtain ⟨i', s', n', rfl, rfl, hM⟩ := vld_zero h
    by_cases h2 : (0 ≤ s ∧ s < (nx.length : Int)) ∧ 0 ≤ t ∧ t < (nx.length : Int)
    · rw [if_pos h2]
      have e := hM.nxl
      rw [e] at h2 ⊢
      exact dst_len hM hM (by omega) (by omega)
    · rw [if_neg h2]; exact Nat.zero_le _
  · rw [if_pos h]; exact Nat.zero_le _
theorem ires_len (i1 st1 : Int) (nx1 ot1 : List (List Int)) (i2 st2 : Int) (nx2 ot2 : List (List Int)) : ((ires i1 st1 nx1 ot1 i2 st2 nx2 ot2).1.getD []).length ≤ 16384 := by
  unfold ires
  by_cases h : chk2 i1 st1 nx1 ot1 i2 st2 nx2 ot2 = 0
  · rw [if_pos h]
    obtain ⟨v1, v2, rfl⟩ := chk2_zero h
    obtain ⟨i', s', n', rfl, rfl, hM⟩ := vld_zero v1
    split
    · have := hM.n2
      show (isoL _ _ _).length ≤ _
      rw [isoL_len, hM.nxl]
      omega
    · exact Nat.zero_le _
  · rw [if_neg h]; exact Nat.zero_le _
end Go.Proofs.Ytdedgpgdmnfijaa
end

section
/- The reference's first distinguishing word: pairs in memory, Extended. -/
namespace Go.Proofs.Ytdedgpgdmnfijaa
open Go.RowKit

theorem infopr : (Try.prog.info? 88).map (fun i => (i.zero, i.size, i.bytes)) = some (some (.agg #[.int .i64 0, .int .i64 0, .slice none 0 0]), 3, 40) := by kernel_rfl
def cellsP (x : Ent × Value) : List Value := [.int .i64 x.1.p, .int .i64 x.1.q, x.2]
/-- A row of pairs with their words. -/
structure Prs (w3 W : World) (b3 : Nat) (v : Value) (E : List Ent) : Prop where
  row : ∃ L : List (Ent × Value), L.map Prod.fst = E ∧ Rws W b3 88 3 v (L.map cellsP) ∧ ∀ x, x ∈ L → ∃ A c, x.2 = .slice A x.1.w.length c ∧ Owned W b3 (.slice A x.1.w.length c) x.1.w
  bel : Below b3 w3 W
/-- The states of the pairs, to be read. -/
def Pv (w : World) (g : Nat) (E : List Ent) : Prop := g < w.heap.size ∧ ∀ k, k < E.length → w.cell? ⟨g, k * 3, none⟩ = some (.int .i64 (E.getD k Ent.zero).p) ∧ w.cell? ⟨g, k * 3 + 1, none⟩ = some (.int .i64 (E.getD k Ent.zero).q)
section
variable {w3 W W' : World} {b3 : Nat} {v : Value} {E : List Ent}
theorem Pv.below {w w' : World} {g : Nat} {E : List Ent} (h : Pv w g E) (hb : Below w.heap.size w w') : Pv w' g E := by
  refine ⟨Nat.lt_of_lt_of_le h.1 hb.size, fun k hk => ?_⟩
  obtain ⟨a, b⟩ := h.2 k hk
  exact ⟨(hb.cell (block_lt a)).trans a, (hb.cell (block_lt b)).trans b⟩
theorem Prs.on (h : Prs w3 W b3 v E) (hb : Below W.heap.size W W') (hz : b3 ≤ W.heap.size) : Prs w3 W' b3 v E := by
  obtain ⟨L, h1, h2, h3⟩ := h.row
  exact ⟨⟨L, h1, h2.kept hb, fun x hx => by obtain ⟨A, c, e, o⟩ := h3 x hx; exact ⟨A, c, e, o.kept hb⟩⟩, h.bel.trans (hb.mono hz)⟩
theorem Prs.at_ (h : Prs w3 W b3 v E) (hE : 0 < E.length) : ∃ g c, v = .slice (some ⟨g, 0, none⟩) E.length c ∧ b3 ≤ g ∧ Pv W g E ∧ ∀ k, k < E.length → ∃ A c', W.cell? ⟨g, k * 3 + 2, none⟩ = some (.slice A (E.getD k Ent.zero).w.length c') ∧ Owned W b3 (.slice A (E.getD k Ent.zero).w.length c') (E.getD k Ent.zero).w := by
  obtain ⟨L, h1, h2, h3⟩ := h.row
  subst h1
  rw [List.length_map] at hE ⊢
  obtain ⟨g, c, rfl, hb, hg, _, hc⟩ := h2.at_ (by rw [List.length_map]; exact hE)
  rw [List.length_map] at hc ⊢
  have hx : ∀ k, k < L.length → ∃ x, x ∈ L ∧ (L.map cellsP).getD k [] = cellsP x ∧ (L.map Prod.fst).getD k Ent.zero = x.1 := fun k hk => by
    refine ⟨L[k], List.getElem_mem hk, ?_, ?_⟩
    · rw [List.getD_eq_getElem?_getD, List.getElem?_map, List.getElem?_eq_getElem hk]; rfl
    · rw [List.getD_eq_getElem?_getD, List.getElem?_map, List.getElem?_eq_getElem hk]; rfl
  refine ⟨g, c, rfl, hb, ⟨hg, fun k hk => ?_⟩, fun k hk => ?_⟩
  · rw [List.length_map] at hk
    obtain ⟨x, hm, e1, e2⟩ := hx k hk
    have c0 := hc k 0 hk (by decide)
    have c1 := hc k 1 hk (by decide)
    rw [e1] at c0 c1
    rw [e2]
    exact ⟨c0, c1⟩
  · obtain ⟨x, hm, e1, e2⟩ := hx k hk
    have c2 := hc k 2 hk (by decide)
    rw [e1] at c2
    rw [e2]
    obtain ⟨A, c', e, o⟩ := h3 x hm
    exact ⟨A, c', by rw [← e]; exact c2, o⟩
theorem Prs.push (h : Prs w3 W b3 v E) (hz : b3 ≤ W.heap.size) (e : Ent) {A : Option Addr} {c : Nat} (ho : Owned W b3 (.slice A e.w.length c) e.w) (hn : E.length < 1099511627776) :
    ∃ A1 c1 W1, (Builtin.append_ #[89, 89] 89 #[v, .slice (some ⟨W.heap.size, 0, none⟩) 1 1]).run Try.prog (W.alloc (.cells #[.int .i64 e.p, .int .i64 e.q, .slice A e.w.length c] 88)) = .ok (.slice A1 (E.length + 1) c1) W1 ∧
      Prs w3 W1 b3 (.slice A1 (E.length + 1) c1) (E ++ [e]) := by
  obtain ⟨i, hi, hz0, hz1, hz2⟩ := info_parts infopr
  obtain ⟨L, h1, h2, h3⟩ := h.row
  have hl : (L.map cellsP).length = E.length := by rw [← h1]; simp
  obtain ⟨A1, c1, W1, r1, r2, r3, r4⟩ := run_append_rws Try.underlying89 hi hz0 hz1 hz2 rfl (by decide) (by decide) h2 (cellsP (e, .slice A e.w.length c)) rfl (fun u hu => by simp [cellsP] at hu; rcases hu with rfl | rfl | rfl <;> rfl) hz (by rw [hl]; exact hn)
  rw [hl] at r1 r2
  refine ⟨A1, c1, W1, r1, ⟨L ++ [(e, .slice A e.w.length c)], by rw [List.map_append, h1]; rfl, by rw [List.map_append]; exact r2, fun x hx => ?_⟩, h.bel.trans r3⟩
  rcases List.mem_append.1 hx with hx | hx
  · obtain ⟨A2, c2, e2, o2⟩ := h3 x hx
    exact ⟨A2, c2, e2, o2.keptT (r4 _ (by decide))⟩
  · simp at hx
    subst hx
    exact ⟨A, c, rfl, ho.keptT (r4 _ (by decide))⟩
end
set_option maxRecDepth 100000 in
theorem rext (A : Option Addr) (n c : Nat) (us : List Int) (x : Int) (w : World) (h : Ints w A n us) (hn : us.length ≤ 1048576) :
    Calls Try.prog 63 #[.slice A n c, .int .i64 x] w fun e w' => ∃ A' c', e = .returned (.slice A' (us.length + 1) c') ∧ Owned w' w.heap.size (.slice A' (us.length + 1) c') (us ++ [x]) ∧ Below w.heap.size w w' := by
  obtain ⟨v1, w1, r1, o1, _, b1⟩ := run_append_ints w w.heap.size (.slice none 0 0) [] us A n c (World.ownsRow_nil _ _ _ _) h (Nat.le_refl _) (by rw [List.nil_append]; omega)
  rw [List.nil_append] at o1
  obtain ⟨A1, c1, rfl⟩ := o1.form
  obtain ⟨A2, c2, w2, r2, o2, b2, _⟩ := run_append_one o1 x b1.size (by omega)
  have O2 := Lib.hid o2
  have b3 := b1.trans b2
  clear o1 o2 b1 b2 hn
  go_enter Try.func63, Try.ntmps63
  go_wp2_with (at_builtin; first | (refine Lib.wpList_append_run _ rfl _ _ _ _ rfl _ _ rfl rfl _ _ r1 ?_; clear r1) | (refine Lib.wpList_append_run _ rfl _ _ _ _ rfl _ _ rfl rfl _ _ r2 ?_))
  go_wp2
  go_ret
  exact ⟨A2, c2, rfl, O2.out, b3⟩
end Go.Proofs.Ytdedgpgdmnfijaa
end

section
/- The reference's first distinguishing word. -/
namespace Go.Proofs.Ytdedgpgdmnfijaa
open Go.RowKit

theorem hasE_take_succ {E : List Ent} {k : Nat} (hk : k < E.length) (p q : Nat) : hasE (E.take (k + 1)) p q ↔ hasE (E.take k) p q ∨ ((E.getD k Ent.zero).p = p ∧ (E.getD k Ent.zero).q = q) := by
  have h1 : E.take (k + 1) = E.take k ++ [E.getD k Ent.zero] := by
    rw [List.take_add_one, List.getD_eq_getElem?_getD, List.getElem?_eq_getElem hk]; rfl
  unfold hasE
  rw [h1, List.map_append, List.mem_append]
  constructor
  · rintro (h | h)
    · exact .inl h
    · simp [Ent.pr] at h; exact .inr ⟨h.1.symm, h.2.symm⟩
  · rintro (h | ⟨h, h2⟩)
    · exact .inl h
    · exact .inr (by subst h; subst h2; simp [Ent.pr])
set_option maxHeartbeats 8000000 in
set_option maxRecDepth 100000 in
theorem rfirst (i st1 st2 n m s t : Nat) (A B C D : Option Addr) (c d c2 d2 : Nat) (nx1 ot1 nx2 ot2 : List (List Int)) (w : World) (hx1 : Lists w A n nx1) (ho1 : Lists w B n ot1) (hx2 : Lists w C m nx2) (ho2 : Lists w D m ot2) (hM : Mok i st1 n nx1 ot1) (hN : Mok i st2 m nx2 ot2) (hs : s < n) (ht : t < m) :
    Calls Try.prog 46 #[.agg #[.int .i64 i, .int .i64 st1, .slice A n c, .slice B n d], .agg #[.int .i64 i, .int .i64 st2, .slice C m c2, .slice D m d2], .int .i64 s, .int .i64 t] w fun e w' => ∃ A' c',
      e = .returned (.tuple #[.slice A' ((dst nx1 ot1 nx2 ot2 i n m s t).getD []).length c', .bool (dst nx1 ot1 nx2 ot2 i n m s t).isSome]) ∧ Owned w' w.heap.size (.slice A' ((dst nx1 ot1 nx2 ot2 i n m s t).getD []).length c') ((dst nx1 ot1 nx2 ot2 i n m s t).getD []) ∧ Below w.heap.size w w' := by
  have hn2 := hM.n2
  have hm2 := hN.n2
  have hi64 := hM.i2
  obtain ⟨R, hR⟩ : ∃ R, R = dst nx1 ot1 nx2 ot2 i n m s t := ⟨_, rfl⟩
  rw [← hR]
  have HR := Lib.hid (show srch nx1 nx2 ot1 ot2 i (n * m) [⟨s, t, 0, 0, []⟩] 0 = R from hR.symm)
  clear hR
  obtain ⟨w3, hw3⟩ : ∃ w3, w3 = (w.alloc (.cells #[.int .i64 i, .int .i64 st1, .slice A n c, .slice B n d] 24)).alloc (.cells #[.int .i64 i, .int .i64 st2, .slice C m c2, .slice D m d2] 24) := ⟨_, rfl⟩
  obtain ⟨w5, hw5⟩ : ∃ w5, w5 = w3.alloc (.cells #[.int .i64 s, .int .i64 t, .slice none 0 0] 88) := ⟨_, rfl⟩
  have hz3 : w3.heap.size = w.heap.size + 1 + 1 := by rw [hw3]; simp
  have hb3 : Below w.heap.size w w3 := by rw [hw3]; exact bt (alloc_below _ _) (alloc_below _ _)
  have hb5 : Below (w.heap.size + 1 + 1) w3 w5 := by rw [hw5, ← hz3]; exact alloc_below _ _
  have hA3 : Mblk w3 w.heap.size (.int .i64 i) (.int .i64 st1) (.slice A n c) (.slice B n d) := by
    rw [hw3]
    refine Mblk.kept (mealy_box w (.int .i64 i) (.int .i64 st1) (.slice A n c) (.slice B n d)) (alloc_below _ _) (by simp)
  have hB3 : Mblk w3 (w.heap.size + 1) (.int .i64 i) (.int .i64 st2) (.slice C m c2) (.slice D m d2) := by
    rw [hw3]
    have := mealy_box (w.alloc (.cells #[.int .i64 i, .int .i64 st1, .slice A n c, .slice B n d] 24)) (.int .i64 i) (.int .i64 st2) (.slice C m c2) (.slice D m d2)
    simpa using this
  have hR5 : Prs w3 w5 (w.heap.size + 1 + 1) (.slice (some ⟨w.heap.size + 1 + 1, 0, none⟩) 1 1) [⟨s, t, 0, 0, []⟩] := by
    refine ⟨⟨[(⟨s, t, 0, 0, []⟩, .slice none 0 0)], rfl, ?_, fun x hx => ?_⟩, hb5⟩
    · rw [hw5]
      have := Rws.one w3 (w.heap.size + 1 + 1) 88 (cellsP (⟨s, t, 0, 0, []⟩, .slice none 0 0)) (by omega)
      rw [hz3] at this
      exact this
    · simp at hx
      subst hx
      exact ⟨none, 0, rfl, World.ownsRow_nil _ _ _ _⟩
  have HW3 := Lib.hid hw3
  have HW5 := Lib.hid hw5
  have HA3 := Lib.hid hA3
  have HB3 := Lib.hid hB3
  have HR5 := Lib.hid hR5
  have H3 := Lib.hid hb3
  obtain ⟨g3, hg3⟩ : ∃ g3, g3 = w.heap.size + 1 + 1 := ⟨_, rfl⟩
  have HG3 := Lib.hid hg3
  clear hw3 hw5 hA3 hB3 hR5 hb3 hb5 hg3
  go_enter Try.func46, Try.ntmps46
  go_wp2
  rw [← HW3.out, ← HW5.out, ← HG3.out]
  have hz3 : w3.heap.size = g3 := by rw [hz3, HG3.out]
  have hg3 : w.heap.size + 2 = g3 := by rw [HG3.out]
  have HF6 := Lib.hid (show Prs w3 w5 g3 (.slice (some ⟨g3, 0, none⟩) 1 1) [⟨s, t, 0, 0, []⟩] by rw [HG3.out]; exact HR5.out)
  clear HR5 HW5 HW3
  go_loopw [10, 11] (fun v8 v10 wr => ∃ (j : Nat) (E : List Ent) (A' : Option Addr) (c' : Nat), v10 = .int .i64 j ∧ v8 = .slice A' E.length c' ∧ j ≤ E.length ∧ Ens n m s t E ∧ srch nx1 nx2 ot1 ot2 i (n * m) E j = R ∧ Prs w3 wr g3 (.slice A' E.length c') E) (fun _ v10 _ => n * m - (intOf v10).toNat)
  case atStart => exact ⟨0, [⟨s, t, 0, 0, []⟩], some ⟨g3, 0, none⟩, 1, rfl, rfl, Nat.zero_le _, Ens.one hs ht, HR.out, HF6.out⟩
  case round =>
    obtain ⟨j, E, A', c', rfl, rfl, hjl, hE, hS, hF⟩ := hrel
    have HE := Lib.hid hE
    have HS := Lib.hid hS
    have HF := Lib.hid hF
    have hlen := hE.len
    have hnm : n * m ≤ 16384 := Nat.mul_le_mul hn2 hm2
    by_cases hlt : j < E.length
    · have hpq := hE.lt _ (getDE_mem hlt)
      obtain ⟨e, he⟩ : ∃ e, e = E.getD j Ent.zero := ⟨_, rfl⟩
      rw [← he] at hpq
      have HEE := Lib.hid he
      obtain ⟨hp, hq⟩ := hpq
      clear hE hS hF he
      go_wp2
      have HI := Lib.hid (show ∀ x, x ≤ i → Ens n m s t (addS nx1 nx2 j e E x) by rw [HEE.out]; exact addS_ens hM hN HE.out hlt)
      go_loopw [10, 12] (fun v8 v36 wq => ∃ (x : Nat) (A2 : Option Addr) (c2 : Nat), x ≤ i ∧ v36 = .int .i64 x ∧ v8 = .slice A2 (addS nx1 nx2 j e E x).length c2 ∧ fD ot1 ot2 e x = none ∧ Prs w3 wq g3 (.slice A2 (addS nx1 nx2 j e E x).length c2) (addS nx1 nx2 j e E x)) (fun _ v36 _ => i - (intOf v36).toNat)
      case atStart => exact ⟨0, _, _, Nat.zero_le _, rfl, rfl, rfl, HF.out⟩
      case round =>
        obtain ⟨x, A2, c3, hx, rfl, rfl, hfd, hF2⟩ := hrel
        have hE2 := HI.out x hx
        have hlen2 := hE2.len
        obtain ⟨T, hT⟩ := addS_pre (nx1 := nx1) (nx2 := nx2) j e E x
        have hj2 : j < (addS nx1 nx2 j e E x).length := by rw [hT, List.length_append]; omega
        have he2 : (addS nx1 nx2 j e E x).getD j Ent.zero = e := by rw [hT, getDE_pre hlt]; exact HEE.out.symm
        have HE2 := Lib.hid hE2
        have Hj2 := Lib.hid hj2
        have He2 := Lib.hid he2
        have HFD := Lib.hid hfd
        have HF2 := Lib.hid hF2
        have hzq : g3 ≤ wr.heap.size := by have := hF2.bel.size; omega
        have hbw : Below w.heap.size w wr := H3.out.trans (hF2.bel.mono (by omega))
        clear hE2 hT he2 hfd hF2
        by_cases hxi : x < i
        · obtain ⟨k0, _⟩ := (HA3.out.kept HF2.out.bel (by omega)).cells
          obtain ⟨g9, c9, e9, hg9, hPv, hWd⟩ := HF2.out.at_ (by omega)
          cases e9
          obtain ⟨Aw, cw, hwc, hwo⟩ := hWd j hj2
          rw [He2.out] at hwc hwo
          have hel : e.w.length ≤ 16384 := by rw [← He2.out]; have := HE2.out.wl j Hj2.out; omega
          have hwi := Owned.ints hwo (by omega)
          have HPV := Lib.hid hPv
          clear hWd hwo hPv
          go_wp2_with fail
          refine (rext Aw e.w.length cw e.w (x : Int) _ hwi (by omega)).mono ?_
          rintro r w8 ⟨A8, c8, rfl, hO8, hb8⟩
          have HF8 := Lib.hid (HF2.out.on hb8 hzq)
          have hPv8 := HPV.out.below hb8
          obtain ⟨a0, a1⟩ := hPv8.2 j hj2
          rw [He2.out] at a0 a1
          have HPV8 := Lib.hid hPv8
          have HO8 := Lib.hid (hO8.lower hzq)
          have hz8 : g3 ≤ w8.heap.size := by have := hb8.size; omega
          have hbw8 : Below w.heap.size w w8 := hbw.trans (hb8.mono hbw.size)
          clear hwi hwc k0 hPv8 hO8 hb8 HPV hbw
          obtain ⟨k0, k1, k2, k3, _⟩ := (HA3.out.kept HF8.out.bel (by omega)).cells
          obtain ⟨l0, l1, l2, l3, _⟩ := (HB3.out.kept HF8.out.bel (by omega)).cells
          obtain ⟨gB, oB, B1, nB, cB, eB, hgB, hdB, hrB⟩ := ho1.at_ hp
          obtain ⟨gD, oD, D1, nD, cD, eD, hgD, hdD, hrD⟩ := ho2.at_ hq
          obtain ⟨gA, oA, A1, nA, cA, eA, hgA, hdA, hrA⟩ := hx1.at_ hp
          obtain ⟨gC, oC, C1, nC, cC, eC, hgC, hdC, hrC⟩ := hx2.at_ hq
          have m1 := hrA.1
          have m2 := hrB.1
          have m3 := hrC.1
          have m4 := hrD.1
          have w1 := (hM.row e.p hp).1
          have w2 := (hM.row e.p hp).2.1
          have w3' := (hN.row e.q hq).1
          have w4 := (hN.row e.q hq).2.1
          obtain rfl : i = nA := by omega
          obtain rfl : i = nB := by omega
          obtain rfl : i = nC := by omega
          obtain rfl : i = nD := by omega
          clear m1 m2 m3 m4 w1 w2 w3' w4
          obtain ⟨hB1, iB1, eB1, lB, vB⟩ := hrB.at_ hxi
          obtain ⟨hD1, iD1, eD1, lD, vD⟩ := hrD.at_ hxi
          obtain ⟨hA1, iA1, eA1, lA, vA⟩ := hrA.at_ hxi
          obtain ⟨hC1, iC1, eC1, lC, vC⟩ := hrC.at_ hxi
          clear hrA hrB hrC hrD
          subst eA eB eC eD eA1 eB1 eC1 eD1
          have hdA := (hbw8.cell (p := ⟨gA, oA + e.p, none⟩) hgA).trans hdA
          have hdB := (hbw8.cell (p := ⟨gB, oB + e.p, none⟩) hgB).trans hdB
          have hdC := (hbw8.cell (p := ⟨gC, oC + e.q, none⟩) hgC).trans hdC
          have hdD := (hbw8.cell (p := ⟨gD, oD + e.q, none⟩) hgD).trans hdD
          have vA := (hbw8.cell (p := ⟨hA1, iA1 + x, none⟩) lA).trans vA
          have vB := (hbw8.cell (p := ⟨hB1, iB1 + x, none⟩) lB).trans vB
          have vC := (hbw8.cell (p := ⟨hC1, iC1 + x, none⟩) lC).trans vC
          have vD := (hbw8.cell (p := ⟨hD1, iD1 + x, none⟩) lD).trans vD
          have rB : (ot1.getD e.p []).getD x 0 = oN ot1 e.p x := rfl
          have rD : (ot2.getD e.q []).getD x 0 = oN ot2 e.q x := rfl
          have rA : (nx1.getD e.p []).getD x 0 = ((nN nx1 e.p x : Nat) : Int) := hM.nN_eq hp hxi
          have rC : (nx2.getD e.q []).getD x 0 = ((nN nx2 e.q x : Nat) : Int) := hN.nN_eq hq hxi
          rw [rB] at vB
          rw [rD] at vD
          rw [rA] at vA
          rw [rC] at vC
          clear rA rB rC rD hgA hgB hgC hgD lA lB lC lD
          by_cases hd : oN ot1 e.p x = oN ot2 e.q x
          · have hee : (oN ot1 e.p x != oN ot2 e.q x) = false := by simpa using hd
            have HXI := Lib.hid hxi
            have HFN := Lib.hid (fD_step HFD.out hd)
            have HST := Lib.hid (show addS nx1 nx2 j e E (x + 1) = addE (addS nx1 nx2 j e E x) (nxE nx1 nx2 j e x) from rfl)
            obtain ⟨e', hE'⟩ : ∃ e', e' = nxE nx1 nx2 j e x := ⟨_, rfl⟩
            have f1 : nN nx1 e.p x = e'.p := by rw [hE']; rfl
            have f2 : nN nx2 e.q x = e'.q := by rw [hE']; rfl
            have f3 : e'.w = e.w ++ [(x : Int)] := by rw [hE']; rfl
            rw [← hE'] at HST
            rw [f1] at vA
            rw [f2] at vC
            have F3 := Lib.hid f3
            generalize oN ot1 e.p x = y1 at vB hee
            generalize oN ot2 e.q x = y2 at vD hee
            clear hd f1 f2 f3 hE'
            go_wp2
            go_quiet (fail)
            clear hee vB vD hdB hdD k3 l3
            obtain ⟨q1, hq1⟩ : ∃ q1, q1 = nq := ⟨_, rfl⟩
            rw [← hq1]
            clear hq1
            go_wp2
            go_quiet (fail)
            have bq := below_drewN (below_drewN (Below.refl w8.heap.size w8) q1) nq
            clear k0 k1 k2 l0 l1 l2 hdA hdC vA vC a0 a1
            go_wp2
            generalize (w8.drewN q1).drewN nq = wk at bq ⊢
            have HFk := Lib.hid (HF8.out.on bq hz8)
            have hPvk := Lib.hid (HPV8.out.below bq)
            have HOk := Lib.hid (HO8.out.kept bq)
            have hzk : g3 ≤ wk.heap.size := by have := bq.size; omega
            have hbwk : Below w.heap.size w wk := hbw8.trans (bq.mono hbw8.size)
            clear bq HF8 HPV8 HO8 hbw8
            go_loopw [16, 17] (fun v16 v17 wq => ∃ k : Nat, k ≤ (addS nx1 nx2 j e E x).length ∧ v17 = .int .i64 k ∧ v16 = .bool (decide (hasE ((addS nx1 nx2 j e E x).take k) e'.p e'.q)) ∧ wq = wk) (fun _ v17 _ => (addS nx1 nx2 j e E x).length - (intOf v17).toNat)
            case atStart => exact ⟨0, Nat.zero_le _, rfl, by simp [hasE], rfl⟩
            case round =>
              obtain ⟨k, hk, rfl, rfl, rfl⟩ := hrel
              by_cases hkl : k < (addS nx1 nx2 j e E x).length
              · have HTS := Lib.hid (hasE_take_succ hkl e'.p e'.q)
                have HKL := Lib.hid hkl
                by_cases hkn : hasE ((addS nx1 nx2 j e E x).take k) e'.p e'.q
                · rw [decide_eq_true hkn]
                  have HN := Lib.hid (HTS.out.2 (.inl hkn))
                  clear hkn
                  go_wp2
                  go_roundw
                  case rel => exact ⟨k + 1, HKL.out, by go_num, by rw [decide_eq_true HN.out], by first | rfl | trivial⟩
                  case measure => have := HKL.out; simp [intOf]; omega
                · obtain ⟨a0, a1⟩ := hPvk.out.2 k hkl
                  rw [decide_eq_false hkn]
                  have HKN := Lib.hid hkn
                  clear hkn
                  by_cases h1 : ((addS nx1 nx2 j e E x).getD k Ent.zero).p = e'.p
                  · have c1 : ((((addS nx1 nx2 j e E x).getD k Ent.zero).p : Int) == (e'.p : Int)) = true := by rw [h1]; exact beq_self_eq_true _
                    by_cases h2 : ((addS nx1 nx2 j e E x).getD k Ent.zero).q = e'.q
                    · have c2 : ((((addS nx1 nx2 j e E x).getD k Ent.zero).q : Int) == (e'.q : Int)) = true := by rw [h2]; exact beq_self_eq_true _
                      have HN := Lib.hid (HTS.out.2 (.inr ⟨h1, h2⟩))
                      generalize ((addS nx1 nx2 j e E x).getD k Ent.zero).p = pk at a0 c1
                      generalize ((addS nx1 nx2 j e E x).getD k Ent.zero).q = qk at a1 c2
                      clear h1 h2
                      go_wp2
                      go_roundw
                      case rel => exact ⟨k + 1, HKL.out, by go_num, by rw [decide_eq_true HN.out], by first | rfl | trivial⟩
                      case measure => have := HKL.out; simp [intOf]; omega
                    · have c2 : ((((addS nx1 nx2 j e E x).getD k Ent.zero).q : Int) == (e'.q : Int)) = false := by rw [beq_eq_false_iff_ne]; omega
                      have HN := Lib.hid (show ¬ hasE ((addS nx1 nx2 j e E x).take (k + 1)) e'.p e'.q from fun h => (HTS.out.1 h).elim HKN.out fun h3 => h2 h3.2)
                      generalize ((addS nx1 nx2 j e E x).getD k Ent.zero).p = pk at a0 c1
                      generalize ((addS nx1 nx2 j e E x).getD k Ent.zero).q = qk at a1 c2
                      clear h1 h2
                      go_wp2
                      go_roundw
                      case rel => exact ⟨k + 1, HKL.out, by go_num, by rw [decide_eq_false HN.out], by first | rfl | trivial⟩
                      case measure => have := HKL.out; simp [intOf]; omega
                  · have c1 : ((((addS nx1 nx2 j e E x).getD k Ent.zero).p : Int) == (e'.p : Int)) = false := by rw [beq_eq_false_iff_ne]; omega
                    have HN := Lib.hid (show ¬ hasE ((addS nx1 nx2 j e E x).take (k + 1)) e'.p e'.q from fun h => (HTS.out.1 h).elim HKN.out fun h3 => h1 h3.1)
                    generalize ((addS nx1 nx2 j e E x).getD k Ent.zero).p = pk at a0 c1
                    clear h1 a1
                    go_wp2
                    go_roundw
                    case rel => exact ⟨k + 1, HKL.out, by go_num, by rw [decide_eq_false HN.out], by first | rfl | trivial⟩
                    case measure => have := HKL.out; simp [intOf]; omega
              · obtain rfl : k = (addS nx1 nx2 j e E x).length := by omega
                rw [List.take_length]
                by_cases hh : hasE (addS nx1 nx2 j e E x) e'.p e'.q
                · have HAE := Lib.hid (addE_in hh)
                  rw [decide_eq_true hh]
                  clear hh
                  go_wp2
                  go_roundw
                  case rel => exact ⟨x + 1, _, c3, HXI.out, by go_num, by rw [HST.out, HAE.out], HFN.out, by rw [HST.out, HAE.out]; exact HFk.out⟩
                  case measure => have := HXI.out; simp [intOf]; omega
                · have HAE := Lib.hid (addE_out hh)
                  rw [decide_eq_false hh]
                  clear hh
                  have HL5 := Lib.hid (show (addS nx1 nx2 j e E (x + 1)).length = (addS nx1 nx2 j e E x).length + 1 by rw [HST.out, HAE.out, List.length_append]; rfl)
                  have hOe := HOk.out
                  have hle : e'.w.length = e.w.length + 1 := by rw [F3.out, List.length_append]; rfl
                  rw [← F3.out, ← hle] at hOe
                  obtain ⟨A5, c5, W5, hr, hF5⟩ := HFk.out.push hzk e' hOe (by omega)
                  rw [hle] at hr
                  have HF5 := Lib.hid hF5
                  clear hF5 hOe hle
                  go_wp2_with (at_builtin; refine Lib.wpList_append_run _ rfl _ _ _ _ rfl _ _ rfl rfl _ _ hr ?_)
                  clear hr
                  go_wp2
                  go_roundw
                  case rel => exact ⟨x + 1, A5, c5, HXI.out, by go_num, by rw [HL5.out], HFN.out, by rw [HL5.out, HST.out, HAE.out]; exact HF5.out⟩
                  case measure => have := HXI.out; simp [intOf]; omega
          · have hne : (oN ot1 e.p x != oN ot2 e.q x) = true := by simpa using hd
            have HRR := Lib.hid (show R = some (e.w ++ [(x : Int)]) by
              rw [← HS.out, srch_hit hM hN HE.out hlt (by rw [← HEE.out]; exact fD_hit HFD.out hd hxi), ← HEE.out])
            generalize oN ot1 e.p x = y1 at vB hne
            generalize oN ot2 e.q x = y2 at vD hne
            clear hd hdA hdC vA vC k0 k1 k2 l0 l1 l2
            go_wp2
            go_quiet (fail)
            go_wp2
            go_ret2
            rw [HRR.out]
            have hO9 := (HO8.out.kept (below_drewN (Below.refl w8.heap.size w8) nq)).lower (base' := w.heap.size) (by omega)
            exact ⟨A8, c8, by rw [Option.getD_some, List.length_append]; rfl, by rw [Option.getD_some, List.length_append]; exact hO9, below_drewN hbw8 nq⟩
        · have hxe : x = i := by omega
          have HXE := Lib.hid hxe
          have HON := Lib.hid (show srch nx1 nx2 ot1 ot2 i (n * m) (addS nx1 nx2 j e E i) (j + 1) = R by
            have h1 := HFD.out
            rw [hxe, HEE.out] at h1
            have h2 := srch_on hM hN HE.out hlt h1
            rw [← HEE.out] at h2
            rw [h2, HS.out])
          have HJ2 := Lib.hid (show j + 1 ≤ (addS nx1 nx2 j e E x).length by have := Hj2.out; omega)
          obtain ⟨k0, _⟩ := (HA3.out.kept HF2.out.bel (by omega)).cells
          clear hxe
          go_wp2
          go_roundw
          case rel =>
            have h1 := HF2.out
            have h2 := HE2.out
            have h3 := HJ2.out
            rw [HXE.out] at h1 h2 h3 ⊢
            exact ⟨j + 1, addS nx1 nx2 j e E i, A2, c3, by go_num, rfl, h3, h2, HON.out, h1⟩
          case measure => simp [intOf]; omega
    · go_wp2
      go_ret2
      rw [← HS.out, srch_end hlt]
      exact ⟨none, 0, rfl, World.ownsRow_nil _ _ _ _, H3.out.trans (HF.out.bel.mono (by omega))⟩
end Go.Proofs.Ytdedgpgdmnfijaa
end

section
/- Valid of a machine by the reference. -/
namespace Go.Proofs.Ytdedgpgdmnfijaa
open Go.RowKit

set_option maxHeartbeats 2000000 in
set_option maxRecDepth 100000 in
theorem rvalid (i st : Int) (A B : Option Addr) (n c m d : Nat) (nx ot : List (List Int)) (w : World) (hx : Lists w A n nx) (ho : Lists w B m ot) :
    Calls Try.prog 49 #[.agg #[.int .i64 i, .int .i64 st, .slice A n c, .slice B m d]] w fun e w' => e = .returned (.int .i64 (vld i st nx ot)) ∧ Below w.heap.size w w' := by
  have L1 := Lib.hid hx.1
  have L2 := Lib.hid ho.1
  have hn := hx.2.1
  have hm := ho.2.1
  have hb0 := alloc_below w (.cells #[.int .i64 i, .int .i64 st, .slice A n c, .slice B m d] 24)
  have hsz0 : (w.alloc (.cells #[.int .i64 i, .int .i64 st, .slice A n c, .slice B m d] 24)).heap.size = w.heap.size + 1 := by simp
  have HZ := Lib.hid hsz0
  clear hsz0
  by_cases hi : 1 ≤ i ∧ i ≤ 64
  · have HI := Lib.hid hi
    obtain ⟨hi1, hi2⟩ := hi
    have i1 : decide (i < 1) = false := by simpa using hi1
    have i2 : decide (64 < i) = false := by simpa using hi2
    by_cases h0 : n = 0
    · have hfin := Lib.hid (vld_empty (st := st) (ot := ot) HI.out (by rw [L1.out]; exact h0))
      subst h0
      go_enter Try.func49, Try.ntmps49
      go_wp2
      go_ret
      exact ⟨ret_int hfin.out.symm, hb0⟩
    · have z0 : ((n : Int) == 0) = false := by simp; omega
      by_cases h1 : 128 < n
      · have hfin := Lib.hid (vld_many (st := st) (ot := ot) HI.out (by rw [L1.out]; exact h1))
        clear h0
        go_enter Try.func49, Try.ntmps49
        go_wp2
        go_ret
        exact ⟨ret_int hfin.out.symm, hb0⟩
      · have z1 : decide ((128 : Int) < (n : Int)) = false := by simp; omega
        by_cases h2 : 0 ≤ st ∧ st < n
        · have H2 := Lib.hid h2
          have s1 : decide (st < 0) = false := by simpa using h2.1
          have s2 : decide ((n : Int) ≤ st) = false := by simpa using h2.2
          by_cases h3 : m = n
          · subst h3
            have z3 : ((m : Int) != (m : Int)) = false := by simp
            have hrows := Lib.hid (vld_rows (i := i) (st := st) (nx := nx) (ot := ot) HI.out (by rw [L1.out]; exact h0) (by rw [L1.out]; exact h1) (by rw [L1.out]; exact H2.out) (by rw [L1.out, L2.out]))
            clear h0 h2
            go_enter Try.func49, Try.ntmps49
            go_wp2
            go_loopw [3] (fun x wr => ∃ j : Nat, j ≤ m ∧ x = .int .i64 j ∧ (∀ t, t < j → rowAt i nx ot t = 0) ∧ Below (w.heap.size + 1) (w.alloc (.cells #[.int .i64 i, .int .i64 st, .slice A m c, .slice B m d] 24)) wr) (fun x _ => m - (intOf x).toNat)
            case atStart => exact ⟨0, Nat.zero_le _, rfl, fun t h => absurd h (by omega), Below.refl _ _⟩
            case round =>
              obtain ⟨j, hj, rfl, hok, hbr⟩ := hrel
              have hbw := hb0.trans (hbr.mono (Nat.le_succ _))
              have hsz1 : w.heap.size + 1 ≤ wr.heap.size := by have := hbr.size; simpa using this
              have HK := Lib.hid hok
              clear hok
              obtain ⟨k0, k1, k2, k3⟩ := box4 hbr
              by_cases hlt : j < m
              · have HV := Lib.hid (show rowAt i nx ot j = rowE i m (nx.getD j []) (ot.getD j []) by unfold rowAt; rw [L1.out])
                by_cases he : rowE i m (nx.getD j []) (ot.getD j []) = 0
                · have hnx := Lib.hid (show ∀ t, t < j + 1 → rowAt i nx ot t = 0 from fun t ht => by
                    by_cases e : t = j
                    · subst e; rw [HV.out]; exact he
                    · exact HK.out t (by omega))
                  have HE := Lib.hid he
                  clear he
                  go_wp2_with fail
                  refine (rrow _ _ _ _ _ _ _ _ _ _ _ _ (hx.below hbw) (ho.below hbw) hlt hlt).mono ?_
                  rintro e w2 ⟨rfl, b2⟩
                  have b3 := hbr.trans (b2.mono hsz1)
                  rw [HE.out]
                  obtain ⟨k0, k1, k2, k3⟩ := box4 b3
                  go_wp2
                  go_roundw
                  case rel => exact ⟨j + 1, by omega, by go_num, hnx.out, b3⟩
                  case measure => simp [intOf]; omega
                · have hfin := Lib.hid (hrows.out.trans (fstE_bad HK.out (by rw [HV.out]; exact he) (by rw [L1.out]; exact hlt)))
                  have he2 : (rowE i m (nx.getD j []) (ot.getD j []) != 0) = true := by simpa using he
                  go_wp2_with fail
                  refine (rrow _ _ _ _ _ _ _ _ _ _ _ _ (hx.below hbw) (ho.below hbw) hlt hlt).mono ?_
                  rintro e w2 ⟨rfl, b2⟩
                  have b3 := hbr.trans (b2.mono hsz1)
                  have HF := Lib.hid (hfin.out.trans HV.out)
                  clear hfin HV
                  generalize rowE i m (nx.getD j []) (ot.getD j []) = E at he2 he HF
                  clear he
                  go_wp2
                  go_ret
                  exact ⟨ret_int HF.out.symm, hb0.trans (b3.mono (Nat.le_succ _))⟩
              · obtain rfl : j = m := by omega
                have hfin := Lib.hid (hrows.out.trans (fstE_ok (by rw [L1.out]; exact HK.out)))
                go_wp2
                go_ret
                exact ⟨ret_int hfin.out.symm, hbw⟩
          · have z3 : ((m : Int) != (n : Int)) = true := by simp; omega
            have hfin := Lib.hid (vld_out (i := i) (st := st) (nx := nx) (ot := ot) HI.out (by rw [L1.out]; exact h0) (by rw [L1.out]; exact h1) (by rw [L1.out]; exact H2.out) (by rw [L1.out, L2.out]; exact h3))
            clear h0 h3
            go_enter Try.func49, Try.ntmps49
            go_wp2
            go_ret
            exact ⟨ret_int hfin.out.symm, hb0⟩
        · have hfin := Lib.hid (vld_start (i := i) (st := st) (nx := nx) (ot := ot) HI.out (by rw [L1.out]; exact h0) (by rw [L1.out]; exact h1) (by rw [L1.out]; exact h2))
          by_cases h3 : 0 ≤ st
          · have s1 : decide (st < 0) = false := by simpa using h3
            have s2 : decide ((n : Int) ≤ st) = true := by simp; omega
            clear h0 h2
            go_enter Try.func49, Try.ntmps49
            go_wp2
            go_ret
            exact ⟨ret_int hfin.out.symm, hb0⟩
          · have s1 : decide (st < 0) = true := by simpa using h3
            clear h0 h2
            go_enter Try.func49, Try.ntmps49
            go_wp2
            go_ret
            exact ⟨ret_int hfin.out.symm, hb0⟩
  · have hfin := Lib.hid (vld_in (st := st) (nx := nx) (ot := ot) hi)
    by_cases hi1 : 1 ≤ i
    · have hi2 : 64 < i := by omega
      have t1 : ¬ i < 1 := by omega
      clear hi
      go_enter Try.func49, Try.ntmps49
      go_wp2
      go_ret
      exact ⟨ret_int hfin.out.symm, hb0⟩
    · have t1 : i < 1 := by omega
      clear hi hi1
      go_enter Try.func49, Try.ntmps49
      go_wp2
      go_ret
      exact ⟨ret_int hfin.out.symm, hb0⟩
end Go.Proofs.Ytdedgpgdmnfijaa
end

section
/- The reference: Check, Distinguish, Equal, Upto and States. -/
namespace Go.Proofs.Ytdedgpgdmnfijaa
open Go.RowKit

set_option maxRecDepth 100000 in
theorem rchk2 (i1 st1 i2 st2 : Int) (A B C D : Option Addr) (n c m d n2 c2 m2 d2 : Nat) (nx1 ot1 nx2 ot2 : List (List Int)) (w : World) (hx1 : Lists w A n nx1) (ho1 : Lists w B m ot1) (hx2 : Lists w C n2 nx2) (ho2 : Lists w D m2 ot2) :
    Calls Try.prog 31 #[.agg #[.int .i64 i1, .int .i64 st1, .slice A n c, .slice B m d], .agg #[.int .i64 i2, .int .i64 st2, .slice C n2 c2, .slice D m2 d2]] w fun e w' => e = .returned (.int .i64 (chk2 i1 st1 nx1 ot1 i2 st2 nx2 ot2)) ∧ Below w.heap.size w w' := by
  obtain ⟨hb0, hB1, hB2⟩ := pair_boxes w i1 st1 i2 st2 A B C D n c m d n2 c2 m2 d2
  obtain ⟨w0, hw0⟩ : ∃ w0, w0 = (w.alloc (.cells #[.int .i64 i1, .int .i64 st1, .slice A n c, .slice B m d] 24)).alloc (.cells #[.int .i64 i2, .int .i64 st2, .slice C n2 c2, .slice D m2 d2] 24) := ⟨_, rfl⟩
  rw [← hw0] at hb0 hB1 hB2
  have HW0 := Lib.hid hw0
  have HB1 := Lib.hid hB1
  have HB2 := Lib.hid hB2
  clear hw0 hB1 hB2
  obtain ⟨k0, k1, k2, k3, _⟩ := HB1.out.cells
  rw [HW0.out] at k0 k1 k2 k3
  go_enter Try.func31, Try.ntmps31
  go_wp2_with fail
  rw [← HW0.out]
  refine (rvalid _ _ _ _ _ _ _ _ _ _ _ (hx1.below hb0) (ho1.below hb0)).mono ?_
  rintro e w1 ⟨rfl, a1⟩
  have HB1 := Lib.hid (HB1.out.on9 a1)
  have HB2 := Lib.hid (HB2.out.on9 a1)
  have b1 := bt hb0 a1
  clear hb0 a1 k0 k1 k2 k3
  by_cases h1 : vld i1 st1 nx1 ot1 = 0
  · obtain ⟨k0, k1, k2, k3, _⟩ := HB2.out.cells
    have H1 := Lib.hid h1
    rw [h1]
    clear h1
    go_wp2_with fail
    refine (rvalid _ _ _ _ _ _ _ _ _ _ _ (hx2.below b1) (ho2.below b1)).mono ?_
    rintro e w2 ⟨rfl, a2⟩
    have b2 := bt b1 a2
    obtain ⟨k0, _⟩ := (HB1.out.on9 a2).cells
    obtain ⟨l0, _⟩ := (HB2.out.on9 a2).cells
    clear b1 a2 k1 k2 k3
    by_cases h2 : vld i2 st2 nx2 ot2 = 0
    · have H2 := Lib.hid h2
      rw [h2]
      clear h2
      by_cases h3 : i1 = i2
      · have hc : (i1 != i2) = false := by simp [h3]
        have H3 := Lib.hid (show chk2 i1 st1 nx1 ot1 i2 st2 nx2 ot2 = 0 by unfold chk2; rw [if_neg (by simp [H1.out]), if_neg (by simp [H2.out]), if_pos h3])
        clear h3
        go_wp2
        go_ret
        exact ⟨by rw [H3.out]; rfl, b2⟩
      · have hc : (i1 != i2) = true := by simpa using h3
        have H3 := Lib.hid (show chk2 i1 st1 nx1 ot1 i2 st2 nx2 ot2 = 15 by unfold chk2; rw [if_neg (by simp [H1.out]), if_neg (by simp [H2.out]), if_neg h3])
        clear h3
        go_wp2
        go_ret
        exact ⟨by rw [H3.out]; rfl, b2⟩
    · have hne : (vld i2 st2 nx2 ot2 != 0) = true := by simpa using h2
      have H3 := Lib.hid (show chk2 i1 st1 nx1 ot1 i2 st2 nx2 ot2 = vld i2 st2 nx2 ot2 by unfold chk2; rw [if_neg (by simp [H1.out]), if_pos h2])
      generalize vld i2 st2 nx2 ot2 = E at hne H3 ⊢
      clear h2
      go_wp2
      go_ret
      exact ⟨by rw [H3.out]; rfl, b2⟩
  · have hne : (vld i1 st1 nx1 ot1 != 0) = true := by simpa using h1
    have H3 := Lib.hid (show chk2 i1 st1 nx1 ot1 i2 st2 nx2 ot2 = vld i1 st1 nx1 ot1 by unfold chk2; rw [if_pos h1])
    generalize vld i1 st1 nx1 ot1 = E at hne H3 ⊢
    clear h1
    go_wp2
    go_ret
    exact ⟨by rw [H3.out]; rfl, b1⟩

set_option maxRecDepth 100000 in
theorem rdist (i1 st1 i2 st2 : Int) (A B C D : Option Addr) (n c m d n2 c2 m2 d2 : Nat) (nx1 ot1 nx2 ot2 : List (List Int)) (w : World) (hx1 : Lists w A n nx1) (ho1 : Lists w B m ot1) (hx2 : Lists w C n2 nx2) (ho2 : Lists w D m2 ot2) :
    Calls Try.prog 21 #[.agg #[.int .i64 i1, .int .i64 st1, .slice A n c, .slice B m d], .agg #[.int .i64 i2, .int .i64 st2, .slice C n2 c2, .slice D m2 d2]] w fun e w' => ∃ A' c', e = .returned (.tuple #[.slice A' ((dres i1 st1 nx1 ot1 i2 st2 nx2 ot2).1.getD []).length c', .bool (dres i1 st1 nx1 ot1 i2 st2 nx2 ot2).1.isSome, .int .i64 (dres i1 st1 nx1 ot1 i2 st2 nx2 ot2).2]) ∧
      Owned w' w.heap.size (.slice A' ((dres i1 st1 nx1 ot1 i2 st2 nx2 ot2).1.getD []).length c') ((dres i1 st1 nx1 ot1 i2 st2 nx2 ot2).1.getD []) ∧ Below w.heap.size w w' := by
  obtain ⟨hb0, hB1, hB2⟩ := pair_boxes w i1 st1 i2 st2 A B C D n c m d n2 c2 m2 d2
  obtain ⟨w0, hw0⟩ : ∃ w0, w0 = (w.alloc (.cells #[.int .i64 i1, .int .i64 st1, .slice A n c, .slice B m d] 24)).alloc (.cells #[.int .i64 i2, .int .i64 st2, .slice C n2 c2, .slice D m2 d2] 24) := ⟨_, rfl⟩
  rw [← hw0] at hb0 hB1 hB2
  have HW0 := Lib.hid hw0
  have HB1 := Lib.hid hB1
  have HB2 := Lib.hid hB2
  clear hw0 hB1 hB2
  obtain ⟨k0, k1, k2, k3, _⟩ := HB1.out.cells
  obtain ⟨l0, l1, l2, l3, _⟩ := HB2.out.cells
  rw [HW0.out] at k0 k1 k2 k3 l0 l1 l2 l3
  obtain ⟨D0, hD0⟩ : ∃ D0, D0 = dres i1 st1 nx1 ot1 i2 st2 nx2 ot2 := ⟨_, rfl⟩
  rw [← hD0]
  have HD0 := Lib.hid hD0
  clear hD0
  go_enter Try.func21, Try.ntmps21
  go_wp2_with fail
  rw [← HW0.out]
  refine (rchk2 _ _ _ _ _ _ _ _ _ _ _ _ _ _ _ _ _ _ _ _ _ (hx1.below hb0) (ho1.below hb0) (hx2.below hb0) (ho2.below hb0)).mono ?_
  rintro e w1 ⟨rfl, a1⟩
  have hB1 := HB1.out.on9 a1
  have hB2 := HB2.out.on9 a1
  have b1 := bt hb0 a1
  clear hb0 a1 k0 k1 k2 k3 l0 l1 l2 l3
  by_cases h1 : chk2 i1 st1 nx1 ot1 i2 st2 nx2 ot2 = 0
  · have hd : D0 = (dst nx1 ot1 nx2 ot2 i1.toNat nx1.length nx2.length st1.toNat st2.toNat, 0) := by rw [HD0.out]; unfold dres; rw [if_pos h1]
    rw [h1]
    obtain ⟨v1, v2, rfl⟩ := chk2_zero h1
    clear HD0 h1
    obtain ⟨i', s', n', rfl, rfl, hM⟩ := vld_zero v1
    obtain ⟨i'', s'', n'', e1, rfl, hN⟩ := vld_zero v2
    obtain rfl : i' = i'' := by omega
    have e1 := hx1.1
    have e2 := ho1.1
    have e3 := hM.nxl
    have e4 := hM.otl
    have e5 := hx2.1
    have e6 := ho2.1
    have e7 := hN.nxl
    have e8 := hN.otl
    obtain rfl : n = n' := by omega
    obtain rfl : n = m := by omega
    obtain rfl : n2 = n'' := by omega
    obtain rfl : n2 = m2 := by omega
    rw [e3, e7] at hd
    simp only [Int.toNat_natCast] at hd
    clear e1 e2 e3 e4 e5 e6 e7 e8 v1 v2
    have HD := Lib.hid hd
    clear hd
    obtain ⟨k0, k1, k2, k3, _⟩ := hB1.cells
    obtain ⟨l0, l1, l2, l3, _⟩ := hB2.cells
    clear hB1 hB2
    go_wp2_with fail
    refine (rfirst _ _ _ _ _ _ _ _ _ _ _ _ _ _ _ _ _ _ _ _ (hx1.below b1) (ho1.below b1) (hx2.below b1) (ho2.below b1) hM hN hM.st hN.st).mono ?_
    rintro e w2 ⟨A', c', rfl, hO, a2⟩
    have b2 := bt b1 a2
    have hO := hO.lower (base' := w.heap.size) b1.size
    generalize dst nx1 ot1 nx2 ot2 i' n n2 s' s'' = R at HD hO ⊢
    have HO := Lib.hid hO
    clear hO
    go_wp2
    go_ret3
    rw [HD.out]
    exact ⟨A', c', rfl, HO.out, b2⟩
  · have hd : D0 = (none, chk2 i1 st1 nx1 ot1 i2 st2 nx2 ot2) := by rw [HD0.out]; unfold dres; rw [if_neg h1]
    have hne : (chk2 i1 st1 nx1 ot1 i2 st2 nx2 ot2 != 0) = true := by simpa using h1
    have HD := Lib.hid hd
    clear hd HD0
    generalize chk2 i1 st1 nx1 ot1 i2 st2 nx2 ot2 = E at hne HD ⊢
    clear h1
    go_wp2
    go_ret3
    rw [HD.out]
    exact ⟨none, 0, rfl, World.ownsRow_nil _ _ _ _, b1⟩

set_option maxRecDepth 100000 in
theorem requ (i1 st1 i2 st2 : Int) (A B C D : Option Addr) (n c m d n2 c2 m2 d2 : Nat) (nx1 ot1 nx2 ot2 : List (List Int)) (w : World) (hx1 : Lists w A n nx1) (ho1 : Lists w B m ot1) (hx2 : Lists w C n2 nx2) (ho2 : Lists w D m2 ot2) :
    Calls Try.prog 23 #[.agg #[.int .i64 i1, .int .i64 st1, .slice A n c, .slice B m d], .agg #[.int .i64 i2, .int .i64 st2, .slice C n2 c2, .slice D m2 d2]] w fun e w' => e = .returned (.tuple #[.bool (eqb (dres i1 st1 nx1 ot1 i2 st2 nx2 ot2)), .int .i64 (dres i1 st1 nx1 ot1 i2 st2 nx2 ot2).2]) ∧ Below w.heap.size w w' := by
  obtain ⟨hb0, hB1, hB2⟩ := pair_boxes w i1 st1 i2 st2 A B C D n c m d n2 c2 m2 d2
  obtain ⟨w0, hw0⟩ : ∃ w0, w0 = (w.alloc (.cells #[.int .i64 i1, .int .i64 st1, .slice A n c, .slice B m d] 24)).alloc (.cells #[.int .i64 i2, .int .i64 st2, .slice C n2 c2, .slice D m2 d2] 24) := ⟨_, rfl⟩
  rw [← hw0] at hb0 hB1 hB2
  have HW0 := Lib.hid hw0
  have HB1 := Lib.hid hB1
  have HB2 := Lib.hid hB2
  clear hw0 hB1 hB2
  obtain ⟨k0, k1, k2, k3, _⟩ := HB1.out.cells
  obtain ⟨l0, l1, l2, l3, _⟩ := HB2.out.cells
  rw [HW0.out] at k0 k1 k2 k3 l0 l1 l2 l3
  obtain ⟨D0, hD0⟩ : ∃ D0, D0 = dres i1 st1 nx1 ot1 i2 st2 nx2 ot2 := ⟨_, rfl⟩
  rw [← hD0]
  have HD0 := Lib.hid hD0
  clear hD0
  go_enter Try.func23, Try.ntmps23
  go_wp2_with fail
  rw [← HW0.out]
  refine (rdist _ _ _ _ _ _ _ _ _ _ _ _ _ _ _ _ _ _ _ _ _ (hx1.below hb0) (ho1.below hb0) (hx2.below hb0) (ho2.below hb0)).mono ?_
  rintro e w1 ⟨A', c', rfl, _, a1⟩
  have b1 := bt hb0 a1
  clear hb0 a1 k0 k1 k2 k3 l0 l1 l2 l3
  rw [← HD0.out]
  clear HD0
  obtain ⟨o, E⟩ := D0
  by_cases hE : E = 0
  · subst hE
    cases o
    all_goals
      go_wp2
      go_ret2
      exact ⟨rfl, b1⟩
  · have hc : (E == 0) = false := by simpa using hE
    have HC := Lib.hid hc
    clear hE
    go_wp2
    go_ret2
    refine ⟨?_, b1⟩
    show _ = Ending.returned (.tuple #[.bool ((E == 0) && !o.isSome), .int .i64 E])
    rw [HC.out]
    rfl

set_option maxRecDepth 100000 in
theorem rupto (i1 st1 i2 st2 : Int) (A B C D : Option Addr) (n c m d n2 c2 m2 d2 : Nat) (nx1 ot1 nx2 ot2 : List (List Int)) (k : Int) (w : World) (hx1 : Lists w A n nx1) (ho1 : Lists w B m ot1) (hx2 : Lists w C n2 nx2) (ho2 : Lists w D m2 ot2) :
    Calls Try.prog 30 #[.agg #[.int .i64 i1, .int .i64 st1, .slice A n c, .slice B m d], .agg #[.int .i64 i2, .int .i64 st2, .slice C n2 c2, .slice D m2 d2], .int .i64 k] w fun e w' => e = .returned (.tuple #[.bool (upb (dres i1 st1 nx1 ot1 i2 st2 nx2 ot2) k), .int .i64 (dres i1 st1 nx1 ot1 i2 st2 nx2 ot2).2]) ∧ Below w.heap.size w w' := by
  obtain ⟨hb0, hB1, hB2⟩ := pair_boxes w i1 st1 i2 st2 A B C D n c m d n2 c2 m2 d2
  obtain ⟨w0, hw0⟩ : ∃ w0, w0 = (w.alloc (.cells #[.int .i64 i1, .int .i64 st1, .slice A n c, .slice B m d] 24)).alloc (.cells #[.int .i64 i2, .int .i64 st2, .slice C n2 c2, .slice D m2 d2] 24) := ⟨_, rfl⟩
  rw [← hw0] at hb0 hB1 hB2
  have HW0 := Lib.hid hw0
  have HB1 := Lib.hid hB1
  have HB2 := Lib.hid hB2
  clear hw0 hB1 hB2
  obtain ⟨k0, k1, k2, k3, _⟩ := HB1.out.cells
  obtain ⟨l0, l1, l2, l3, _⟩ := HB2.out.cells
  rw [HW0.out] at k0 k1 k2 k3 l0 l1 l2 l3
  obtain ⟨D0, hD0⟩ : ∃ D0, D0 = dres i1 st1 nx1 ot1 i2 st2 nx2 ot2 := ⟨_, rfl⟩
  rw [← hD0]
  have HD0 := Lib.hid hD0
  clear hD0
  go_enter Try.func30, Try.ntmps30
  go_wp2_with fail
  rw [← HW0.out]
  refine (rdist _ _ _ _ _ _ _ _ _ _ _ _ _ _ _ _ _ _ _ _ _ (hx1.below hb0) (ho1.below hb0) (hx2.below hb0) (ho2.below hb0)).mono ?_
  rintro e w1 ⟨A', c', rfl, _, a1⟩
  have b1 := bt hb0 a1
  clear hb0 a1 k0 k1 k2 k3 l0 l1 l2 l3
  rw [← HD0.out]
  clear HD0
  obtain ⟨o, E⟩ := D0
  by_cases hE : E = 0
  · subst hE
    cases o with
    | none =>
      go_wp2
      go_ret2
      exact ⟨rfl, b1⟩
    | some u =>
      go_wp2
      go_ret2
      exact ⟨rfl, b1⟩
  · have hc : (E == 0) = false := by simpa using hE
    have HC := Lib.hid (show upb (o, E) k = false by unfold upb; rw [hc]; rfl)
    clear hE
    go_wp2
    go_ret2
    exact ⟨by rw [HC.out]; rfl, b1⟩
end Go.Proofs.Ytdedgpgdmnfijaa
end

section
/- The reference: States. -/
namespace Go.Proofs.Ytdedgpgdmnfijaa
open Go.RowKit

set_option maxRecDepth 100000 in
theorem rstates (i st : Int) (A B : Option Addr) (n c m d : Nat) (nx ot : List (List Int)) (s t : Int) (w : World) (hx : Lists w A n nx) (ho : Lists w B m ot) :
    Calls Try.prog 26 #[.agg #[.int .i64 i, .int .i64 st, .slice A n c, .slice B m d], .int .i64 s, .int .i64 t] w fun e w' => ∃ A' c', e = .returned (.tuple #[.slice A' ((sres i st nx ot s t).1.getD []).length c', .bool (sres i st nx ot s t).1.isSome, .int .i64 (sres i st nx ot s t).2]) ∧
      Owned w' w.heap.size (.slice A' ((sres i st nx ot s t).1.getD []).length c') ((sres i st nx ot s t).1.getD []) ∧ Below w.heap.size w w' := by
  have hb0 := alloc_below w (.cells #[.int .i64 i, .int .i64 st, .slice A n c, .slice B m d] 24)
  have HB1 := Lib.hid (mealy_box w (.int .i64 i) (.int .i64 st) (.slice A n c) (.slice B m d))
  obtain ⟨D0, hD0⟩ : ∃ D0, D0 = sres i st nx ot s t := ⟨_, rfl⟩
  rw [← hD0]
  have HD0 := Lib.hid hD0
  clear hD0
  go_enter Try.func26, Try.ntmps26
  go_wp2_with fail
  refine (rvalid _ _ _ _ _ _ _ _ _ _ _ (hx.below hb0) (ho.below hb0)).mono ?_
  rintro e w1 ⟨rfl, a1⟩
  have HB1 := Lib.hid (HB1.out.on9 a1)
  have b1 := bt hb0 a1
  clear hb0 a1
  by_cases hv : vld i st nx ot = 0
  · rw [hv]
    have HV := Lib.hid hv
    obtain ⟨i', s', n', rfl, rfl, hM⟩ := vld_zero hv
    have e1 := hx.1
    have e2 := ho.1
    have e3 := hM.nxl
    have e4 := hM.otl
    obtain rfl : n = n' := by omega
    obtain rfl : n = m := by omega
    clear e1 e2 e4 hv
    have hn := hx.2.1
    obtain ⟨k0, k1, k2, k3, _⟩ := HB1.out.cells
    by_cases h1 : 0 ≤ s
    · have d1 : decide (s < 0) = false := decide_eq_false (by omega)
      by_cases h2 : s < (n : Int)
      · have d2 : decide ((n : Int) ≤ s) = false := decide_eq_false (by omega)
        by_cases h3 : 0 ≤ t
        · have d3 : decide (t < 0) = false := decide_eq_false (by omega)
          by_cases h4 : t < (n : Int)
          · have d4 : decide ((n : Int) ≤ t) = false := decide_eq_false (by omega)
            obtain ⟨S, rfl⟩ : ∃ S : Nat, s = S := ⟨s.toNat, by omega⟩
            obtain ⟨T, rfl⟩ : ∃ T : Nat, t = T := ⟨t.toNat, by omega⟩
            have HD := Lib.hid (show D0 = (dst nx ot nx ot i' n n S T, 0) by rw [HD0.out]; unfold sres; rw [if_neg (by simp [HV.out]), if_pos (by rw [e3]; exact ⟨⟨h1, h2⟩, h3, h4⟩), e3]; rfl)
            have hS : S < n := by omega
            have hT : T < n := by omega
            clear HD0
            go_wp2_with fail
            refine (rfirst i' s' s' n n S T _ _ _ _ _ _ _ _ _ _ _ _ _ (hx.below b1) (ho.below b1) (hx.below b1) (ho.below b1) hM hM hS hT).mono ?_
            rintro e w9 ⟨A', c', rfl, hO, a9⟩
            have b9 := bt b1 a9
            have hO := hO.lower (base' := w.heap.size) b1.size
            generalize dst nx ot nx ot i' n n S T = R at HD hO ⊢
            have HO := Lib.hid hO
            clear hO
            go_wp2
            go_ret3
            rw [HD.out]
            exact ⟨A', c', rfl, HO.out, b9⟩
          · have d4 : decide ((n : Int) ≤ t) = true := decide_eq_true (by omega)
            have HD := Lib.hid (show D0 = (none, 2) by rw [HD0.out]; unfold sres; rw [if_neg (by simp [HV.out]), if_neg (by rw [e3]; exact fun H => h4 H.2.2)])
            clear HD0
            go_wp2
            go_ret3
            rw [HD.out]
            exact ⟨none, 0, rfl, World.ownsRow_nil _ _ _ _, b1⟩
        · have d3 : decide (t < 0) = true := decide_eq_true (by omega)
          have HD := Lib.hid (show D0 = (none, 2) by rw [HD0.out]; unfold sres; rw [if_neg (by simp [HV.out]), if_neg (by rw [e3]; exact fun H => h3 H.2.1)])
          clear HD0
          go_wp2
          go_ret3
          rw [HD.out]
          exact ⟨none, 0, rfl, World.ownsRow_nil _ _ _ _, b1⟩
      · have d2 : decide ((n : Int) ≤ s) = true := decide_eq_true (by omega)
        have HD := Lib.hid (show D0 = (none, 2) by rw [HD0.out]; unfold sres; rw [if_neg (by simp [HV.out]), if_neg (by rw [e3]; exact fun H => h2 H.1.2)])
        clear HD0
        go_wp2
        go_ret3
        rw [HD.out]
        exact ⟨none, 0, rfl, World.ownsRow_nil _ _ _ _, b1⟩
    · have d1 : decide (s < 0) = true := decide_eq_true (by omega)
      have HD := Lib.hid (show D0 = (none, 2) by rw [HD0.out]; unfold sres; rw [if_neg (by simp [HV.out]), if_neg (by rw [e3]; exact fun H => h1 H.1.1)])
      clear HD0
      go_wp2
      go_ret3
      rw [HD.out]
      exact ⟨none, 0, rfl, World.ownsRow_nil _ _ _ _, b1⟩
  · have hne : (vld i st nx ot != 0) = true := by simpa using hv
    have HD := Lib.hid (show D0 = (none, vld i st nx ot) by rw [HD0.out]; unfold sres; rw [if_pos hv])
    clear HD0
    generalize vld i st nx ot = E at hne HD ⊢
    clear hv
    go_wp2
    go_ret3
    rw [HD.out]
    exact ⟨none, 0, rfl, World.ownsRow_nil _ _ _ _, b1⟩
end Go.Proofs.Ytdedgpgdmnfijaa
end
