/- Plain: what Word of an alphabet returns. No program. -/
import Derived.Test.YtiongejdedhcjaaDoorWordsr
namespace Go.Proofs.YtiongejdedhcjaaDoor

/-- The symbols of parts, if all are found. -/
def lkL (ss : List ByteArray) : List ByteArray → Option (List Int)
  | [] => some []
  | b :: bs => if (ixV ss b).2 = true then (lkL ss bs).map ((ixV ss b).1 :: ·) else none
/-- The symbols of parts. -/
def idL (ss : List ByteArray) (bs : List ByteArray) : List Int := bs.map fun b => (ixV ss b).1
theorem lkL_some (ss : List ByteArray) (bs : List ByteArray) (h : ∀ j, j < bs.length → (ixV ss (bs.getD j ByteArray.empty)).2 = true) : lkL ss bs = some (idL ss bs) := by
  induction bs with
  | nil => rfl
  | cons b bs ih =>
    rw [lkL, if_pos (by simpa using h 0 (by simp)), ih (fun j hj => by simpa using h (j + 1) (by simpa using hj))]
    rfl
theorem lkL_none (ss : List ByteArray) (bs : List ByteArray) (j : Nat) (hj : j < bs.length) (h : (ixV ss (bs.getD j ByteArray.empty)).2 = false) : lkL ss bs = none := by
  induction bs generalizing j with
  | nil => simp at hj
  | cons b bs ih =>
    cases j with
    | zero => rw [lkL, if_neg (by have : (ixV ss b).2 = false := by simpa using h
                                  rw [this]; decide)]
    | succ j =>
      rw [lkL, ih j (by simpa using hj) (by simpa using h)]
      split <;> rfl
theorem idL_len (ss bs : List ByteArray) : (idL ss bs).length = bs.length := by unfold idL; simp
theorem idL_take (ss bs : List ByteArray) (j : Nat) (h : j < bs.length) : (idL ss bs).take (j + 1) = (idL ss bs).take j ++ [(ixV ss (bs.getD j ByteArray.empty)).1] := by
  rw [List.take_succ_eq_append_getElem (by rw [idL_len]; exact h)]
  congr 1
  unfold idL
  simp [List.getD, h]

/-- The strings of parts. -/
def mkL (ps : List (List UInt8)) : List ByteArray := ps.map fun p => ⟨p.toArray⟩
theorem mk_btL (bs : List ByteArray) : mkL (btL bs) = bs := by
  unfold mkL btL
  rw [List.map_map]
  apply List.ext_getElem?
  intro i
  rw [List.getElem?_map]
  cases bs[i]? <;> simp

/-- What Word of an alphabet returns. -/
def wrdV (ss : List ByteArray) (s : ByteArray) : List Int × Int :=
  if valV ss ≠ 0 then ([], valV ss) else if 1048576 < s.size then ([], 3) else if (pv s.data.toList).2 = false then ([], 5)
  else if 1024 < (pv s.data.toList).1.length then ([], 3) else match lkL ss (mkL (pv s.data.toList).1) with
    | none => ([], 8)
    | some w => (w, 0)
theorem wrdV_inv {ss : List ByteArray} {s : ByteArray} (h : valV ss ≠ 0) : wrdV ss s = ([], valV ss) := by unfold wrdV; rw [if_pos h]
theorem wrdV_great {ss : List ByteArray} {s : ByteArray} (h : valV ss = 0) (h1 : 1048576 < s.size) : wrdV ss s = ([], 3) := by unfold wrdV; rw [if_neg (fun H => H h), if_pos h1]
theorem wrdV_syn {ss : List ByteArray} {s : ByteArray} (h : valV ss = 0) (h1 : ¬ 1048576 < s.size) (h2 : (pv s.data.toList).2 = false) : wrdV ss s = ([], 5) := by unfold wrdV; rw [if_neg (fun H => H h), if_neg h1, if_pos h2]
theorem wrdV_long {ss : List ByteArray} {s : ByteArray} {bs : List ByteArray} (h : valV ss = 0) (h1 : ¬ 1048576 < s.size) (h2 : (pv s.data.toList).2 = true) (hb : btL bs = (pv s.data.toList).1) (h3 : 1024 < bs.length) : wrdV ss s = ([], 3) := by
  unfold wrdV; rw [if_neg (fun H => H h), if_neg h1, if_neg (by rw [h2]; decide), if_pos (by rw [← hb]; unfold btL; simpa using h3)]
theorem wrdV_none {ss : List ByteArray} {s : ByteArray} {bs : List ByteArray} (h : valV ss = 0) (h1 : ¬ 1048576 < s.size) (h2 : (pv s.data.toList).2 = true) (hb : btL bs = (pv s.data.toList).1) (h3 : ¬ 1024 < bs.length) (h4 : lkL ss bs = none) : wrdV ss s = ([], 8) := by
  unfold wrdV; rw [if_neg (fun H => H h), if_neg h1, if_neg (by rw [h2]; decide), if_neg (by rw [← hb]; unfold btL; simpa using h3), ← hb, mk_btL, h4]
theorem wrdV_ok {ss : List ByteArray} {s : ByteArray} {bs : List ByteArray} (h : valV ss = 0) (h1 : ¬ 1048576 < s.size) (h2 : (pv s.data.toList).2 = true) (hb : btL bs = (pv s.data.toList).1) (h3 : ¬ 1024 < bs.length) {w : List Int} (h4 : lkL ss bs = some w) : wrdV ss s = (w, 0) := by
  unfold wrdV; rw [if_neg (fun H => H h), if_neg h1, if_neg (by rw [h2]; decide), if_neg (by rw [← hb]; unfold btL; simpa using h3), ← hb, mk_btL, h4]
theorem wrdV_len (ss : List ByteArray) (s : ByteArray) : (wrdV ss s).1.length ≤ 1024 := by
  unfold wrdV
  split
  · simp
  · split
    · simp
    · split
      · simp
      · split
        · simp
        · rename_i h
          split
          · simp
          · rename_i w hw
            have : ∀ (bs : List ByteArray) (w : List Int), lkL ss bs = some w → w.length = bs.length := by
              intro bs
              induction bs with
              | nil => intro w h; simp [lkL] at h; subst h; rfl
              | cons b bs ih =>
                intro w h
                rw [lkL] at h
                split at h
                · cases h2 : lkL ss bs with
                  | none => rw [h2] at h; cases h
                  | some w2 =>
                    rw [h2] at h
                    simp at h
                    subst h
                    simp [ih w2 h2]
                · cases h
            have := this _ _ hw
            unfold mkL at this
            simp at this
            show w.length ≤ 1024
            omega
end Go.Proofs.YtiongejdedhcjaaDoor
