/- Lemmas of the proofs of this seat, of the parts Arrw, Arrp, Eqli, Growh, Conch, Cptw, Diffw, Growi, Conci, Joinw, Ownw. Conditions: none. -/
import Derived.Test.YtakhphhpjcpphaaGreatDoorMb
import Derived.Test.YtakhphhpjcpphaaGreatDoorShelfs
import Derived.Lib.OwnBridge
import Derived.Test.YtakhphhpjcpphaaGreatDoorMa
import Derived.Test.YtakhphhpjcpphaaGreatDoorProg
import Derived.WalkSpells
import Derived.WalkLawsBesides
import Derived.Outline
import Derived.BigQuiet
import Derived.Deep.QuietTactic
import Derived.Shelf.Abstract
import Derived.Lib.AppendZeros
import Derived.Deep.LoopGhost
section
/- arrange: the headers of a row sorted by an order of their words. -/
namespace Go.Proofs.YtakhphhpjcpphaaGreatDoor
open Go.RowKit Go.Shelf Go.Sort Go.Lib

/-- A header's parts and the list that it reads as. -/
abbrev HS := (Option Addr × Nat × Nat) × List Int
/-- A header that reads as its list, outside the block g. -/
def GoodIn (w : World) (g : Nat) (x : HS) : Prop := Ints w x.1.1 x.1.2.1 x.2 ∧ ∀ a, x.1.1 = some a → 0 < x.1.2.1 → a.block ≠ g
def GIn (w : World) (g : Nat) : Type := {x : HS // GoodIn w g x}
instance (w : World) (g : Nat) : Inhabited (GIn w g) := ⟨⟨((none, 0, 0), []), ⟨Ints.none_ w, fun _ h => by cases h⟩⟩⟩
def encG {w : World} {g : Nat} (x : GIn w g) : Value := .slice x.1.1.1 x.1.1.2.1 x.1.1.2.2
def toHL {w : World} {g : Nat} (x : GIn w g) : HL := (encG x, x.1.2)

/-- The header p reads as its list, outside the block of v. -/
def InOff (w : World) (g : Option Nat) (p : HL) : Prop := ∃ A n c, p.1 = .slice A n c ∧ Ints w A n p.2 ∧ ∀ a, A = some a → 0 < n → some a.block ≠ g

theorem exists_gin {w : World} {g : Nat} {ps : List HL} (h : ∀ p, p ∈ ps → InOff w (some g) p) : ∃ ds : List (GIn w g), ds.map toHL = ps := by
  induction ps with
  | nil => exact ⟨[], rfl⟩
  | cons p ps ih =>
    obtain ⟨ds, hd⟩ := ih fun q hq => h q (List.mem_cons_of_mem _ hq)
    obtain ⟨A, n, c, e, hi, ho⟩ := h p List.mem_cons_self
    have hx : GoodIn w g ((A, n, c), p.2) := ⟨hi, fun a ha hn e2 => ho a ha hn (by rw [e2])⟩
    have ht : toHL (⟨_, hx⟩ : GIn w g) = p := by
      show (Value.slice A n c, p.2) = p
      rw [← e]
    exact ⟨(⟨_, hx⟩ : GIn w g) :: ds, congr (congrArg List.cons ht) hd⟩

theorem swo_of {o : List Int → List Int → Int} (O : TotO o) {α : Type} (f : α → List Int) : SWO (fun x y : α => decide (o (f x) (f y) < 0)) where
  irrefl x := by have := (O.zero (f x) (f x)).2 rfl; simp; omega
  trans x y z h1 h2 := by
    simp only [decide_eq_true_eq] at *
    exact (O.trans _ _ _).2 h1 (Int.le_of_lt h2)
  ntrans x y z h1 h2 := by
    simp only [decide_eq_false_iff_not] at *
    have a := O.neg (f x) (f y)
    have b := O.neg (f y) (f z)
    have c := O.neg (f x) (f z)
    have d := (O.trans (f z) (f y) (f x)).1 (by omega) (by omega)
    omega

noncomputable def siT : TypeInfo := (Tryz.prog.info? 22).get (by kernel_rfl)
noncomputable def siE : TypeInfo := (Tryz.prog.info? 23).get (by kernel_rfl)
theorem siK (n : Nat) (h2 : 2 ≤ n) : Lib.swapperK n siE 23 = 9 := by
  have a : siE.hasPointers = true := by kernel_rfl
  have b : siE.bytes = 24 := by kernel_rfl
  have c : (n == 0) = false := by simp; omega
  have d : (n == 1) = false := by simp; omega
  simp [Lib.swapperK, a, b, c, d]
theorem siK0 : Lib.swapperK 0 siE 23 = 1 := by simp [Lib.swapperK]
theorem siK1 : Lib.swapperK 1 siE 23 = 2 := by simp [Lib.swapperK]
theorem renS : Tryz.laysGg6_ren.f 6 = 49 := rfl

/-- The world in which arrange calls sort.Slice. -/
def arrW (w : World) (v : Value) (f : Nat) : World := (w.alloc (.cells #[v] 22)).alloc (.cells #[.func (.func f) #[] #[]] 38)
theorem arrW_below (w : World) (v : Value) (f : Nat) : Below w.heap.size w (arrW w v f) := ((Below.refl _ _).alloc (Nat.le_refl _) _).alloc (by simp) _
theorem arrW_size (w : World) (v : Value) (f : Nat) : (arrW w v f).heap.size = w.heap.size + 2 := by simp [arrW]

set_option maxHeartbeats 1000000 in
set_option maxRecDepth 100000 in
theorem sortS (f : Nat) (o : List Int → List Int → Int) (O : TotO o) (ef : ∀ args w, (callFunc f args).run Tryz.prog w = .ok (.enter f args) w) (hord : OrdC f o) (w : World) (g c : Nat) (d : Array (GIn w g)) (h2 : 2 ≤ d.size) (hn : d.size ≤ 17592186044416)
    (hH : Holds encG w g 0 d) (hg : g < w.heap.size) :
    Calls Tryz.prog 49 #[.iface 22 (.slice (some ⟨g, 0, none⟩) d.size c), .func (.func 48) #[] #[.pointer (some ⟨w.heap.size + 1, 0, none⟩), .pointer (some ⟨w.heap.size, 0, none⟩)]] (arrW w (.slice (some ⟨g, 0, none⟩) d.size c) f) fun e w' =>
      e = .returned (.tuple #[]) ∧ ∃ d' n os, PermIn 0 d.size d d' ∧ SortedIn (fun x y : GIn w g => decide (o x.1.2 y.1.2 < 0)) 0 d.size d' ∧ w' = grow (putRow encG (Sort.ahead (arrW w (.slice (some ⟨g, 0, none⟩) d.size c) f) n) g 0 d') os := by
  have hb := arrW_below w (.slice (some ⟨g, 0, none⟩) d.size c) f
  have hsz := arrW_size w (.slice (some ⟨g, 0, none⟩) d.size c) f
  have hcw : (arrW w (.slice (some ⟨g, 0, none⟩) d.size c) f).cell? ⟨w.heap.size, 0, none⟩ = some (.slice (some ⟨g, 0, none⟩) d.size c) := by simp [arrW]
  have hco : (arrW w (.slice (some ⟨g, 0, none⟩) d.size c) f).cell? ⟨w.heap.size + 1, 0, none⟩ = some (.func (.func f) #[] #[]) := by simp [arrW]
  generalize arrW w (.slice (some ⟨g, 0, none⟩) d.size c) f = W at hb hsz hcw hco
  have hH1 : Holds encG W g 0 d := fun j hj => ⟨(hb.cell (p := ⟨g, 0 + j, none⟩) hg).trans (hH j hj).1, (hb.frozen (p := ⟨g, 0 + j, none⟩) hg).trans (hH j hj).2⟩
  have hg1 : g < W.heap.size := by omega
  have hless : LessReads Tryz.prog 48 #[.pointer (some ⟨w.heap.size + 1, 0, none⟩), .pointer (some ⟨w.heap.size, 0, none⟩)] encG (fun x y : GIn w g => decide (o x.1.2 y.1.2 < 0)) g 0 d.size W := by
    intro m os dk hs i j hi hj
    have e : sortWorld encG W g 0 m dk os = putRow encG (grow (Sort.ahead W m) os) g 0 dk := by
      unfold sortWorld; rw [putRow_grow _ (Sort.ahead W m) _ g 0 _ hg1]
    have hHg : Holds encG (grow (Sort.ahead W m) os) g 0 d := holds_grow _ _ _ g 0 d hg1 (holds_ahead _ _ _ _ _ _ hH1)
    have oth : ∀ a : Addr, a.block ≠ g → a.block < W.heap.size → (sortWorld encG W g 0 m dk os).cell? a = W.cell? a := fun a ha hlt => by
      rw [e, cell?_putRow_other _ _ g 0 dk _ (Or.inl ha)]; exact cell?_grow (Sort.ahead W m) os a hlt
    have hin : ∀ x : GIn w g, Ints (sortWorld encG W g 0 m dk os) x.1.1.1 x.1.1.2.1 x.1.2 := fun x => by
      refine ⟨x.2.1.1, x.2.1.2.1, fun h0 => ?_⟩
      obtain ⟨b, off, e1, hlt, hc⟩ := x.2.1.2.2 h0
      have hbg : b ≠ g := x.2.2 _ e1 h0
      refine ⟨b, off, e1, ?_, fun k hk => ?_⟩
      · have h0 := (oth ⟨b, off + 0, none⟩ hbg (by show b < W.heap.size; omega)).trans ((hb.cell (p := ⟨b, off + 0, none⟩) hlt).trans (hc 0 h0))
        exact block_lt h0
      · exact (oth ⟨b, off + k, none⟩ hbg (by show b < W.heap.size; omega)).trans ((hb.cell (p := ⟨b, off + k, none⟩) hlt).trans (hc k hk))
    refine pless f o ef hord g d.size c (w.heap.size + 1) w.heap.size i j _ ?_ ?_ hi hj _ _ _ dk[i]!.1.1.2.2 _ dk[j]!.1.1.2.2 _ _ ?_ ?_ (hin dk[i]!) (hin dk[j]!)
    · exact (oth ⟨w.heap.size + 1, 0, none⟩ (by show w.heap.size + 1 ≠ g; omega) (by show w.heap.size + 1 < W.heap.size; omega)).trans hco
    · exact (oth ⟨w.heap.size, 0, none⟩ (by show w.heap.size ≠ g; omega) (by show w.heap.size < W.heap.size; omega)).trans hcw
    · rw [e]; exact cell?_putRow _ _ g 0 d dk hHg hs i (by omega)
    · rw [e]; exact cell?_putRow _ _ g 0 d dk hHg hs j (by omega)
  exact Any.sort_Slice_sorted Tryz.laysGg6 22 23 siT siE (by kernel_rfl) (by kernel_rfl) (by kernel_rfl) (by kernel_rfl) 23 (fun _ => by kernel_rfl) (by kernel_rfl) (fun _ => by kernel_rfl) encG (fun _ => rfl) _ (swo_of O fun x : GIn w g => x.1.2) 48 _
    (enters_of Tryz.func48 (by kernel_rfl) rfl) g 0 c d h2 (by omega) 75 (by rw [siK _ h2]; kernel_rfl) false
    (fun args W => run_callFunc_extern Tryz.func75 (by kernel_rfl) (by kernel_rfl) (by kernel_rfl) (e := Extern.ReflectliteSwapper.swap false) (by kernel_rfl) args W) _ hless hH1 hg1
end Go.Proofs.YtakhphhpjcpphaaGreatDoor
end

section
/- arrange: its contract. -/
namespace Go.Proofs.YtakhphhpjcpphaaGreatDoor
open Go.RowKit Go.Shelf Go.Sort Go.Lib

theorem permIn_all {α : Type} [Inhabited α] {d d' : Array α} (h : PermIn 0 d.size d d') : d'.toList.Perm d.toList := by
  have h3 := h.2.2
  have e1 : d'.extract 0 d.size = d' := by rw [← h.1]; exact Array.extract_size
  have e2 : d.extract 0 d.size = d := Array.extract_size
  rw [e1, e2] at h3
  exact h3
theorem sortedIn_all {α : Type} [Inhabited α] {lt : α → α → Bool} {n : Nat} {d : Array α} (hn : d.size = n) (h : SortedIn lt 0 n d) : d.toList.Pairwise fun x y => lt y x = false := by
  subst hn
  refine List.pairwise_iff_getElem.2 fun i j hi hj hij => ?_
  have := h i j (Nat.zero_le _) hij (by simpa using hj)
  rw [getElem!_pos d j (by simpa using hj), getElem!_pos d i (by simpa using hi)] at this
  simpa using this

/-- arrange, at two words or more. -/
theorem parr2 (f : Nat) (o : List Int → List Int → Int) (O : TotO o) (ef : ∀ args w, (callFunc f args).run Tryz.prog w = .ok (.enter f args) w) (hord : OrdC f o) (w : World) (base g c : Nat) (ps : List HL) (h2 : 2 ≤ ps.length) (hn : ps.length ≤ 17592186044416)
    (h : HRow w base (.slice (some ⟨g, 0, none⟩) ps.length c) ps) (hin : ∀ p, p ∈ ps → InOff w (some g) p) :
    Calls Tryz.prog 49 #[.iface 22 (.slice (some ⟨g, 0, none⟩) ps.length c), .func (.func 48) #[] #[.pointer (some ⟨w.heap.size + 1, 0, none⟩), .pointer (some ⟨w.heap.size, 0, none⟩)]] (arrW w (.slice (some ⟨g, 0, none⟩) ps.length c) f) fun e w' =>
      e = .returned (.tuple #[]) ∧ ∃ ps', ps'.Perm ps ∧ SrtP o ps' ∧ HRow w' base (.slice (some ⟨g, 0, none⟩) ps.length c) ps' ∧ w.grownBy w' (some g) := by
  obtain ⟨ds, rfl⟩ := exists_gin hin
  rw [List.length_map] at h h2 hn ⊢
  have hrow : w.ownsRow base 23 1 (.slice (some ⟨g, 0, none⟩) ds.length c) ds.length (ds.map encG) := by
    have := h.1
    rw [List.length_map, List.map_map] at this
    exact this
  obtain ⟨g', cap', e, hbg, hlt, _, _, _, hH⟩ := holds_of_ownsRow hrow (by simp)
  cases e
  have hs := sortS f o O ef hord w g c ds.toArray (by simpa using h2) (by simpa using hn) hH hlt
  rw [List.size_toArray] at hs
  refine hs.mono ?_
  rintro e w' ⟨rfl, d', n, os, hP, hS, rfl⟩
  have hsz : d'.size = ds.length := by have := hP.1; simpa using this
  have hb := arrW_below w (.slice (some ⟨g, 0, none⟩) ds.length c) f
  have hperm : d'.toList.Perm ds := by
    have := permIn_all (d := ds.toArray) (d' := d') (by rw [List.size_toArray]; exact hP)
    simpa using this
  refine ⟨rfl, d'.toList.map toHL, hperm.map _, ?_, ⟨?_, fun p hp => ?_⟩, ?_⟩
  · have := sortedIn_all hsz hS
    unfold SrtP
    rw [List.pairwise_map]
    refine this.imp fun {a b} hab => ?_
    have h1 : ¬ o b.1.2 a.1.2 < 0 := by simpa using hab
    have h2 := O.neg a.1.2 b.1.2
    show o a.1.2 b.1.2 ≤ 0
    omega
  · have hrow1 : (arrW w (.slice (some ⟨g, 0, none⟩) ds.length c) f).ownsRow base 23 1 (.slice (some ⟨g, 0, none⟩) ds.length c) ds.length (ds.map encG) := by
      have := (HRow.kept h hb).1
      rw [List.length_map, List.map_map] at this
      exact this
    have hput := ownsRow_putRow (q := n) (k := ds.length) (ys := d'.toList) hrow1 (by simpa using hsz) (Nat.le_refl _)
    rw [List.take_of_length_le (by simp; omega)] at hput
    have hg2 := hput.kept (w' := grow (putRow encG (Sort.ahead (arrW w (.slice (some ⟨g, 0, none⟩) ds.length c) f) n) g 0 d') os) (row := none) ⟨rfl, rfl, rfl, by simp [grow], fun k hk _ => heap_grow_old _ _ hk⟩ (.inr (by simp [Value.ownBlock]))
    rw [List.length_map, List.map_map]
    have hl : d'.toList.length = ds.length := by simpa using hsz
    rw [hl]
    exact hg2
  · obtain ⟨x, _, rfl⟩ := List.mem_map.1 hp
    exact ⟨_, _, _, rfl⟩
  · have hsize := arrW_size w (.slice (some ⟨g, 0, none⟩) ds.length c) f
    have hgb : (arrW w (.slice (some ⟨g, 0, none⟩) ds.length c) f).grownBy (grow (putRow encG (Sort.ahead (arrW w (.slice (some ⟨g, 0, none⟩) ds.length c) f) n) g 0 d') os) (some g) := by
      refine ⟨rfl, rfl, rfl, by simp [grow, putRow, mapBlock, Sort.ahead], fun k hk hne => ?_⟩
      rw [heap_grow_old _ _ (by simpa [putRow, mapBlock, Sort.ahead] using hk)]
      simp [putRow, mapBlock, Sort.ahead, Array.getElem?_modify, show g ≠ k from fun e => hne (by rw [e])]
    exact ⟨hgb.os.trans hb.os, hgb.tape.trans hb.tape, hgb.output.trans hb.output, Nat.le_trans hb.size hgb.size, fun k hk hne => (hgb.block k (Nat.lt_of_lt_of_le hk hb.size) hne).trans (hb.block k hk)⟩

/-- .. at one word or none. -/
theorem parr1 (f : Nat) (w : World) (A : Option Addr) (n c : Nat) (hn : n ≤ 1) :
    Calls Tryz.prog 49 #[.iface 22 (.slice A n c), .func (.func 48) #[] #[.pointer (some ⟨w.heap.size + 1, 0, none⟩), .pointer (some ⟨w.heap.size, 0, none⟩)]] (arrW w (.slice A n c) f) fun e w' =>
      e = .returned (.tuple #[]) ∧ Below w.heap.size w w' := by
  have hb := arrW_below w (.slice A n c) f
  have key : ∀ m (hm : m ≤ 1) (F : Nat) (hF : Tryz.prog.funcs.findIdx? (·.name == "internal/reflectlite" ++ ".Swapper$" ++ toString (Lib.swapperK m siE 23)) = some F), Calls Tryz.prog 49 #[.iface 22 (.slice A m c), .func (.func 48) #[] #[.pointer (some ⟨w.heap.size + 1, 0, none⟩), .pointer (some ⟨w.heap.size, 0, none⟩)]] (arrW w (.slice A n c) f) fun e w' => e = .returned (.tuple #[]) ∧ ∃ os, w' = grow (arrW w (.slice A n c) f) os :=
    fun m hm F hF => Any.sort_Slice_tiny Tryz.laysGg6 22 23 siT siE (by kernel_rfl) (by kernel_rfl) (by kernel_rfl) (by kernel_rfl) 23 (fun _ => by kernel_rfl) A m c hm F hF _ _ _ _
  have hres : ∀ m, m ≤ 1 → Calls Tryz.prog 49 #[.iface 22 (.slice A m c), .func (.func 48) #[] #[.pointer (some ⟨w.heap.size + 1, 0, none⟩), .pointer (some ⟨w.heap.size, 0, none⟩)]] (arrW w (.slice A n c) f) fun e w' => e = .returned (.tuple #[]) ∧ ∃ os, w' = grow (arrW w (.slice A n c) f) os := fun m hm => by
    rcases Nat.le_one_iff_eq_zero_or_eq_one.1 hm with rfl | rfl
    · exact key 0 (by omega) 67 (by rw [siK0]; kernel_rfl)
    · exact key 1 (by omega) 68 (by rw [siK1]; kernel_rfl)
  refine (hres n hn).mono ?_
  rintro e w' ⟨rfl, os, rfl⟩
  exact ⟨rfl, hb.os, hb.tape, hb.output, by have := hb.size; simp [grow]; omega, fun k hk => (heap_grow_old _ _ (Nat.lt_of_lt_of_le hk hb.size)).trans (hb.block k hk)⟩

theorem grownBy_of_below {w w' : World} (h : Below w.heap.size w w') (row : Option Nat) : w.grownBy w' row := ⟨h.os, h.tape, h.output, h.size, fun k hk _ => h.block k hk⟩

set_option maxHeartbeats 1000000 in
/-- arrange: the row holds the same headers, sorted; nothing else has turned. -/
theorem parrange (f : Nat) (o : List Int → List Int → Int) (O : TotO o) (ef : ∀ args w, (callFunc f args).run Tryz.prog w = .ok (.enter f args) w) (hord : OrdC f o) (w : World) (base : Nat) (A : Option Addr) (n c : Nat) (ps : List HL) (hn : n ≤ 17592186044416)
    (h : HRow w base (.slice A n c) ps) (hin : ∀ p, p ∈ ps → InOff w (Value.ownBlock (.slice A n c)) p) :
    Calls Tryz.prog 32 #[.slice A n c, .func (.func f) #[] #[]] w fun e w' =>
      e = .returned (.tuple #[]) ∧ ∃ ps', ps'.Perm ps ∧ SrtP o ps' ∧ HRow w' base (.slice A n c) ps' ∧ w.grownBy w' (Value.ownBlock (.slice A n c)) := by
  have hl : ps.length = n := by obtain ⟨A', c', e⟩ := h.form; cases e; rfl
  have hS : Calls Tryz.prog 49 #[.iface 22 (.slice A n c), .func (.func 48) #[] #[.pointer (some ⟨w.heap.size + 1, 0, none⟩), .pointer (some ⟨w.heap.size, 0, none⟩)]] (arrW w (.slice A n c) f) fun e w' =>
      e = .returned (.tuple #[]) ∧ ∃ ps', ps'.Perm ps ∧ SrtP o ps' ∧ HRow w' base (.slice A n c) ps' ∧ w.grownBy w' (Value.ownBlock (.slice A n c)) := by
    by_cases h2 : 2 ≤ n
    · rcases h.1.2 with ⟨e, h0⟩ | ⟨g, cap, cur, e, _⟩
      · omega
      · cases e
        exact parr2 f o O ef hord w base g c ps h2 hn h hin
    · refine (parr1 f w A n c (by omega)).mono ?_
      rintro e w' ⟨rfl, hb⟩
      refine ⟨rfl, ps, List.Perm.refl _, ?_, h.kept hb, grownBy_of_below hb _⟩
      unfold SrtP
      match ps, hl with
      | [], _ => exact List.Pairwise.nil
      | [p], _ => simp
      | p :: q :: r, hl => simp at hl; omega
  unfold arrW at hS
  have HS := Lib.hid hS
  clear hS hin h hl
  go_enter Tryz.func32, Tryz.ntmps32
  go_wp2_with (go_at_call 49; refine HS.out.mono ?_; rintro e w' ⟨rfl, hx⟩)
  go_end0
  exact ⟨rfl, hx⟩
end Go.Proofs.YtakhphhpjcpphaaGreatDoor
end

section
/- slices.Equal of lists of numbers. -/
namespace Go.Proofs.YtakhphhpjcpphaaGreatDoor
open Go.RowKit Go.Shelf

theorem entE : ∀ args w, (callFunc 30 args).run Tryz.prog w = .ok (.enter 30 args) w := enters_of Tryz.func30 (by kernel_rfl) rfl
theorem eq_of_agree {xs ys : List Int} (h : xs.length = ys.length) (ha : Agree xs ys xs.length) : xs = ys := by
  refine (cmn_full h).1 ?_
  exact cmn_eq (Nat.le_refl _) (by omega) ha (.inl rfl)

set_option maxHeartbeats 1000000 in
theorem sequal (A B : Option Addr) (n c m d : Nat) (xs ys : List Int) (b : Bool) (w : World) (hx : Ints w A n xs) (hy : Ints w B m ys) (hb : b = decide (xs = ys)) :
    Calls Tryz.prog 30 #[.slice A n c, .slice B m d] w fun e w' => e = .returned (.bool b) ∧ ∃ q, w' = w.drewN q := by
  have L1 := Lib.hid hx.1
  have L2 := Lib.hid hy.1
  have hn := hx.2.1
  have hm := hy.2.1
  have HB := Lib.hid hb
  clear hb
  by_cases h : n = m
  · subst h
    have hne : ((n : Int) != (n : Int)) = false := by simp
    go_enter Tryz.func30, Tryz.ntmps30
    go_wp2
    go_loopw [13] (fun i wr => ∃ j : Nat, j ≤ n ∧ i = .int .i64 j ∧ Agree xs ys j ∧ ∃ q, wr = w.drewN q) (fun i _ => n - (intOf i).toNat)
    case atStart => exact ⟨0, Nat.zero_le _, rfl, Agree.zero _ _, 0, rfl⟩
    case round =>
      obtain ⟨j, hj, rfl, ha, q, rfl⟩ := hrel
      by_cases hlt : j < n
      · obtain ⟨b1, o1, rfl, _, hc1⟩ := hx.at_ (k := j) (by omega)
        obtain ⟨b2, o2, rfl, _, hc2⟩ := hy.at_ (k := j) (by omega)
        have i1 : (j : Int) < (n : Int) := by omega
        have i0 : (0 : Int) ≤ (j : Int) := by omega
        by_cases he : xs[j]?.getD 0 = ys[j]?.getD 0
        · have ha' := Lib.hid (ha.succ (by simpa using he))
          have hz : (xs[j]?.getD 0 != ys[j]?.getD 0) = false := by simp [he]
          have hE := Lib.hid he
          clear he ha
          go_wp2
          go_quiet (fail)
          go_wp2
          go_roundw
          case rel => exact ⟨j + 1, by omega, by go_num, ha'.out, by first | exact ⟨_, rfl⟩ | exact ⟨_, World.drewN_drewN _ _ _⟩⟩
          case measure => simp [intOf]; omega
        · have hz : (xs[j]?.getD 0 != ys[j]?.getD 0) = true := by simp [he]
          have hfin := Lib.hid (show b = false by
            rw [HB.out, decide_eq_false_iff_not]
            intro e; exact he (by rw [e]))
          clear he ha
          go_wp2
          go_quiet (fail)
          go_wp2
          go_ret
          exact ⟨by rw [hfin.out]; rfl, by first | exact ⟨_, rfl⟩ | exact ⟨_, World.drewN_drewN _ _ _⟩⟩
      · obtain rfl : j = n := by omega
        have hfin := Lib.hid (show b = true by
          rw [HB.out, decide_eq_true_eq]
          exact eq_of_agree (by rw [L1.out, L2.out]) (by rw [L1.out]; exact ha))
        clear ha
        go_wp2
        go_ret
        exact ⟨by rw [hfin.out]; rfl, _, rfl⟩
  · have hne : ((n : Int) != (m : Int)) = true := by simp; omega
    have hfin := Lib.hid (show b = false by
      rw [HB.out, decide_eq_false_iff_not]
      intro e; apply h; rw [← L1.out, ← L2.out, e])
    go_enter Tryz.func30, Tryz.ntmps30
    go_wp2
    go_ret
    exact ⟨by rw [hfin.out]; rfl, 0, rfl⟩
end Go.Proofs.YtakhphhpjcpphaaGreatDoor
end

section
/- slices.Grow of a nil slice of headers. -/
namespace Go.Proofs.YtakhphhpjcpphaaGreatDoor
open Go.RowKit

set_option maxHeartbeats 1000000 in
set_option maxRecDepth 100000 in
theorem grow_nilh (N : Nat) (hN : N ≤ 1759218604441) (w : World) :
    Calls Tryz.prog 54 #[.slice none 0 0, .int .i64 N] w fun e w' => ∃ v, e = .returned v ∧ HRow w' w.heap.size v [] ∧ Below w.heap.size w w' := by
  obtain ⟨i0, hi, hz0, hz1, hz2⟩ := info_parts infol
  by_cases h0 : N = 0
  · subst h0
    go_enter Tryz.func54, Tryz.ntmps54
    go_wp2
    go_ret
    exact ⟨_, rfl, HRow.nil _ _, Below.refl _ _⟩
  · have happ := Lib.run_append_nil_zeros (P := Tryz.prog) w 22 3 22 23 i0 (.slice none 0 0) .i64 .i64 Tryz.underlying22 Tryz.underlying3 hi hz0 N (by omega) (by omega) (by omega) (by rw [hz2]; omega)
    have hge := grownCap_ge w N 0 23
    have hcm := grownCap_le_maxLen w N 0 23 (by unfold maxLen; omega)
    generalize grownCap w N 0 23 = cap at happ hge hcm
    generalize hZ : (Builtin.zeroCells (Value.slice none 0 0).cells N ++ Builtin.zeroCells (Value.slice none 0 0).cells (cap - N)) = Z at happ
    have hZs : Z.size = cap := by rw [← hZ]; simp [size_zeroCells, Value.cells]; omega
    have hp : (0 : Int) < N := by omega
    have HZ := Lib.hid hZs
    clear hZ hZs
    have hmx : cap ≤ 9223372036854775807 := by unfold maxLen at hcm; omega
    go_enter Tryz.func54, Tryz.ntmps54
    go_wp2_with (at_builtin; refine Lib.wpList_append_run _ rfl _ _ _ _ rfl _ _ rfl rfl _ _ happ ?_)
    go_ret
    refine ⟨_, rfl, ?_, (Below.refl _ _).drew.alloc (Nat.le_refl _) _⟩
    exact ⟨⟨by simp, .inr ⟨w.heap.size, cap, Z, rfl, Nat.le_refl _, heap_alloc_new w _, Nat.zero_le _, hcm, by rw [HZ.out]; simp, by simp⟩⟩, fun p hp => absurd hp (by simp)⟩
end Go.Proofs.YtakhphhpjcpphaaGreatDoor
end

section
/- slices.Concat of lists of headers. -/
namespace Go.Proofs.YtakhphhpjcpphaaGreatDoor
open Go.RowKit

/-- The slice '.slice A n _' holds rows of headers. -/
def Rows3 (w : World) (A : Option Addr) (n : Nat) (xss : List (List HL)) : Prop :=
  xss.length = n ∧ n ≤ 17592186044416 ∧ (0 < n → ∃ b off, A = some ⟨b, off, none⟩ ∧ b < w.heap.size ∧
    ∀ j, j < n → ∃ Aj nj cj, w.cell? ⟨b, off + j, none⟩ = some (.slice Aj nj cj) ∧ Hds w Aj nj (xss.getD j []))
theorem Rows3.below {w w' : World} {A : Option Addr} {n : Nat} {xss : List (List HL)} (h : Rows3 w A n xss) (hb : Below w.heap.size w w') : Rows3 w' A n xss :=
  ⟨h.1, h.2.1, fun hn => by
    obtain ⟨b, off, e, hlt, hc⟩ := h.2.2 hn
    refine ⟨b, off, e, Nat.lt_of_lt_of_le hlt hb.size, fun j hj => ?_⟩
    obtain ⟨Aj, nj, cj, h1, h2⟩ := hc j hj
    exact ⟨Aj, nj, cj, (hb.cell hlt).trans h1, h2.below hb⟩⟩
theorem Rows3.at_ {w : World} {A : Option Addr} {n : Nat} {xss : List (List HL)} (h : Rows3 w A n xss) {k : Nat} (hk : k < n) :
    ∃ b off Aj nj cj, A = some ⟨b, off, none⟩ ∧ b < w.heap.size ∧ w.cell? ⟨b, off + k, none⟩ = some (.slice Aj nj cj) ∧ Hds w Aj nj (xss.getD k []) := by
  obtain ⟨b, off, e, hlt, hc⟩ := h.2.2 (by omega)
  obtain ⟨Aj, nj, cj, h1, h2⟩ := hc k hk
  exact ⟨b, off, Aj, nj, cj, e, hlt, h1, h2⟩
/-- One list of headers, as a literal makes it. -/
theorem Rows3.one (w : World) (A : Option Addr) (n c : Nat) (ps : List HL) (h : Hds w A n ps) :
    Rows3 (w.alloc (.cells #[.slice A n c] 22)) (some ⟨w.heap.size, 0, none⟩) 1 [ps] := by
  have hb : Below w.heap.size w (w.alloc (.cells #[.slice A n c] 22)) := (Below.refl _ _).alloc (Nat.le_refl _) _
  refine ⟨rfl, by omega, fun _ => ⟨w.heap.size, 0, rfl, by simp, fun j hj => ?_⟩⟩
  obtain rfl : j = 0 := by omega
  refine ⟨A, n, c, ?_, h.below hb⟩
  have := cell_of_row (w.alloc (.cells #[.slice A n c] 22)) w.heap.size 0 #[.slice A n c] 22 (0, 0) (heap_alloc_new w _)
  rw [Nat.zero_add, this]; rfl

/-- The first j lists, one after the other. -/
def catH (xss : List (List HL)) (j : Nat) : List HL := (xss.take j).flatten
theorem catH_zero (xss : List (List HL)) : catH xss 0 = [] := by simp [catH]
theorem catH_succ {xss : List (List HL)} {j : Nat} (h : j < xss.length) : catH xss (j + 1) = catH xss j ++ xss.getD j [] := by
  unfold catH
  rw [List.take_succ_eq_append_getElem h, List.flatten_append]
  simp [List.getD, h]
theorem catH_all (xss : List (List HL)) : catH xss xss.length = xss.flatten := by simp [catH]
theorem catH_len (xss : List (List HL)) (j : Nat) : (catH xss j).length ≤ xss.flatten.length := by
  have h : xss.flatten = catH xss j ++ (xss.drop j).flatten := by unfold catH; rw [← List.flatten_append, List.take_append_drop]
  rw [h, List.length_append]; omega

set_option maxHeartbeats 1000000 in
set_option maxRecDepth 100000 in
theorem sconcath (A : Option Addr) (n c : Nat) (xss : List (List HL)) (w : World) (h : Rows3 w A n xss) (hlen : xss.flatten.length ≤ 1759218604441) :
    Calls Tryz.prog 39 #[.slice A n c] w fun e w' => ∃ A' c', e = .returned (.slice A' xss.flatten.length c') ∧ HRow w' w.heap.size (.slice A' xss.flatten.length c') xss.flatten ∧ Below w.heap.size w w' := by
  have L := Lib.hid h.1
  have hn := h.2.1
  have hall := Lib.hid (show catH xss n = xss.flatten by rw [← L.out, catH_all])
  have hcl := Lib.hid (fun j => Nat.le_trans (catH_len xss j) hlen)
  clear hlen
  go_enter Tryz.func39, Tryz.ntmps39
  go_wp2
  go_loop [3, 11] (fun s i => ∃ k : Nat, k ≤ n ∧ i = .int .i64 k ∧ s = .int .i64 (catH xss k).length) (fun _ i => n - (intOf i).toNat)
  case atStart => exact ⟨0, Nat.zero_le _, rfl, by rw [catH_zero]; rfl⟩
  case round =>
    obtain ⟨k, hk, rfl, rfl⟩ := hrel
    by_cases hlt : k < n
    · obtain ⟨b, off, Aj, nj, cj, rfl, _, hcell, hI⟩ := h.at_ hlt
      have hs : (catH xss (k + 1)).length = (catH xss k).length + nj := by rw [catH_succ (by rw [L.out]; exact hlt), List.length_append, hI.1]
      have hc1 := hcl.out (k + 1)
      generalize (catH xss k).length = a at hs
      generalize hz : (catH xss (k + 1)).length = z at hs hc1
      have HZ := Lib.hid hz
      have u1 : ((a : Int) + (nj : Int)) = (z : Int) := by omega
      have d1 : decide (((z : Nat) : Int) < 0) = false := by simp
      clear hI hz hs
      go_wp2
      go_round
      case rel => exact ⟨k + 1, by omega, by go_num, by rw [HZ.out]⟩
      case measure => simp [intOf]; omega
    · obtain rfl : k = n := by omega
      rw [hall.out]
      have hf := hcl.out k
      rw [hall.out] at hf
      obtain ⟨F, hF⟩ : ∃ F : Nat, F = xss.flatten.length := ⟨_, rfl⟩
      rw [← hF] at hf ⊢
      have HF := Lib.hid hF
      clear hF
      go_wp2_with fail
      refine (grow_nilh F hf _).mono ?_
      rintro e w1 ⟨v1, rfl, o1, b1⟩
      have O1 := Lib.hid o1
      clear o1
      go_wp2
      go_loopw [6, 27] (fun v i wr => ∃ q : Nat, q ≤ k ∧ i = .int .i64 q ∧ HRow wr w.heap.size v (catH xss q) ∧ Below w.heap.size w wr) (fun _ i _ => k - (intOf i).toNat)
      case atStart => exact ⟨0, Nat.zero_le _, rfl, by rw [catH_zero]; exact O1.out, b1⟩
      case round =>
        obtain ⟨q, hq, rfl, hown, hbr⟩ := hrel
        by_cases hlt : q < k
        · obtain ⟨b, off, Aj, nj, cj, rfl, _, hcell, hI⟩ := (h.below hbr).at_ hlt
          have hs := Lib.hid (catH_succ (xss := xss) (j := q) (by rw [L.out]; exact hlt))
          have hb2 := hcl.out (q + 1)
          rw [hs.out] at hb2
          obtain ⟨v', w', hr, ho', _, hbel'⟩ := run_append_heads (c := cj) hown hI hbr.size hb2
          rw [← hs.out] at ho'
          have O2 := Lib.hid ho'
          have B2 := Lib.hid (hbr.trans hbel')
          clear hb2 hI hown hbr ho' hbel'
          go_wp2_with (at_builtin; refine Lib.wpList_append_run _ rfl _ _ _ _ rfl _ _ rfl rfl _ _ hr ?_)
          go_roundw
          case rel => exact ⟨q + 1, by omega, by go_num, O2.out, B2.out⟩
          case measure => simp [intOf]; omega
        · obtain rfl : q = k := by omega
          rw [hall.out] at hown
          have hf2 := hown.form
          obtain ⟨A2, c2, rfl⟩ := hf2
          have O2 := Lib.hid hown
          clear hown
          go_wp2
          go_ret
          exact ⟨A2, c2, rfl, O2.out, hbr⟩

/-- Concat of one list of headers. -/
theorem sconcath1 (A : Option Addr) (n c : Nat) (ps : List HL) (w : World) (h : Hds w A n ps) (hn : n ≤ 1759218604441) :
    Calls Tryz.prog 39 #[.slice (some ⟨w.heap.size, 0, none⟩) 1 1] (w.alloc (.cells #[.slice A n c] 22)) fun e w' => ∃ A' c', e = .returned (.slice A' n c') ∧ HRow w' w.heap.size (.slice A' n c') ps ∧ Below w.heap.size w w' := by
  have hl := h.1
  refine (sconcath _ _ _ [ps] _ (Rows3.one w A n c ps h) (by simp; omega)).mono ?_
  rintro e w' ⟨A', c', rfl, hv, hb⟩
  rw [show ([ps] : List (List HL)).flatten = ps by simp, hl] at hv
  refine ⟨A', c', by rw [show ([ps] : List (List HL)).flatten = ps by simp, hl], hv.lower (by simp), ((Below.refl _ _).alloc (Nat.le_refl _) _).trans (hb.mono (by simp))⟩
end Go.Proofs.YtakhphhpjcpphaaGreatDoor
end

section
/- slices.CompactFunc of a row of headers: one of each run of equal words. -/
namespace Go.Proofs.YtakhphhpjcpphaaGreatDoor
open Go.RowKit Go.Shelf

theorem InOff.grown {w w' : World} {g : Option Nat} {p : HL} (h : InOff w g p) (hg : w.grownBy w' g) : InOff w' g p := by
  obtain ⟨A, n, c, e, hi, ho⟩ := h
  refine ⟨A, n, c, e, ⟨hi.1, hi.2.1, fun h0 => ?_⟩, ho⟩
  obtain ⟨b, off, e1, hlt, hc⟩ := hi.2.2 h0
  have hne : some b ≠ g := ho ⟨b, off, none⟩ e1 h0
  exact ⟨b, off, e1, Nat.lt_of_lt_of_le hlt hg.size, fun j hj => hg.cell (a := ⟨b, off + j, none⟩) (hc j hj) hne⟩
theorem InOff.drewN {w : World} {g : Option Nat} {p : HL} (h : InOff w g p) (q : Nat) : InOff (w.drewN q) g p := h
theorem HRow.at_ {w : World} {base g n c : Nat} {ps : List HL} (h : HRow w base (.slice (some ⟨g, 0, none⟩) n c) ps) (hin : ∀ p, p ∈ ps → InOff w (some g) p) {j : Nat} (hj : j < n) :
    ∃ B m d xs, ps[j]? = some (.slice B m d, xs) ∧ w.cell? ⟨g, j, none⟩ = some (.slice B m d) ∧ Ints w B m xs ∧ w.frozen? ⟨g, j, none⟩ = false := by
  have hl : ps.length = n := by obtain ⟨A', c', e⟩ := h.form; cases e; rfl
  have hp : ps[j]? = some ps[j] := List.getElem?_eq_getElem (by omega)
  obtain ⟨B, m, d, e, hi, _⟩ := hin ps[j] (List.getElem_mem _)
  have hr := h.1
  refine ⟨B, m, d, ps[j].2, by rw [hp, ← e], ?_, hi, ?_⟩
  · rw [hl] at hr
    rw [World.ownsRow.cellAt hr j (by omega), List.getElem?_map, hp, ← e]; rfl
  · rcases hr.2 with ⟨e1, _⟩ | ⟨g', cap, cur, e1, _, hg, _⟩
    · cases e1
    · cases e1
      exact frozen_of_row w g j cur 23 hg
theorem HRow.cap {w : World} {base g n c : Nat} {ps : List HL} (h : HRow w base (.slice (some ⟨g, 0, none⟩) n c) ps) : n ≤ c ∧ base ≤ g ∧ g < w.heap.size := by
  rcases h.1.2 with ⟨e1, _⟩ | ⟨g', cap, cur, e1, hb, hg, hc, _⟩
  · cases e1
  · have hl : ps.length = n := by obtain ⟨A', c', e⟩ := h.form; cases e; rfl
    cases e1
    exact ⟨by omega, hb, heap_lt hg⟩
theorem HRow.stored {w : World} {base g n c : Nat} {ps : List HL} (h : HRow w base (.slice (some ⟨g, 0, none⟩) n c) ps) (j : Nat) (B : Option Addr) (m d : Nat) (xs : List Int) :
    HRow (w.setCell ⟨g, j, none⟩ (.slice B m d)) base (.slice (some ⟨g, 0, none⟩) n c) (ps.set j (.slice B m d, xs)) := by
  refine ⟨?_, fun p hp => ?_⟩
  · have hl : ps.length = n := by obtain ⟨A', c', e⟩ := h.form; cases e; rfl
    have h1 := h.1
    rw [hl] at h1
    have := (World.ownsRow.stored h1 j (.slice B m d)).1
    rw [List.length_set, List.map_set, hl]
    exact this
  · rcases List.mem_or_eq_of_mem_set hp with hp | rfl
    · exact h.2 p hp
    · exact ⟨B, m, d, rfl⟩
theorem HRow.storedBy {w : World} {base g n c : Nat} {ps : List HL} (h : HRow w base (.slice (some ⟨g, 0, none⟩) n c) ps) (j : Nat) (u : Value) : w.grownBy (w.setCell ⟨g, j, none⟩ u) (some g) := by
  have hl : ps.length = n := by obtain ⟨A', c', e⟩ := h.form; cases e; rfl
  have h1 := h.1
  rw [hl] at h1
  exact (World.ownsRow.stored h1 j u).2
/-- A row cut to its first m cells. -/
theorem HRow.cut {w : World} {base g n c m : Nat} {ps : List HL} (h : HRow w base (.slice (some ⟨g, 0, none⟩) n c) ps) (hm : m ≤ n) : HRow w base (.slice (some ⟨g, 0, none⟩) m c) (ps.take m) := by
  have hl : ps.length = n := by obtain ⟨A', c', e⟩ := h.form; cases e; rfl
  refine ⟨?_, fun p hp => h.2 p (List.mem_of_mem_take hp)⟩
  rw [List.length_take, hl, Nat.min_eq_left hm]
  refine ⟨by simp [hl]; omega, ?_⟩
  rcases h.1.2 with ⟨e1, _⟩ | ⟨g', cap, cur, e1, hb, hg, hc, h1, h2, h3⟩
  · cases e1
  · cases e1
    refine .inr ⟨g, c, cur, rfl, hb, hg, by omega, h1, h2, ?_⟩
    rw [hl] at h3
    rw [Nat.mul_one] at h3 ⊢
    rw [List.map_take, ← h3, List.take_take, Nat.min_eq_left hm]
/-- Cells behind the row's end are set. -/
theorem HRow.setCells {base g m c : Nat} {ps : List HL} : ∀ (vs : List Value) (w : World) (j : Nat), m ≤ j → HRow w base (.slice (some ⟨g, 0, none⟩) m c) ps → HRow (w.setCells g j vs) base (.slice (some ⟨g, 0, none⟩) m c) ps ∧ w.grownBy (w.setCells g j vs) (some g)
  | [], w, _, _, h => ⟨h, World.grownBy.refl w _⟩
  | v :: r, w, j, hj, h => by
    have hl : ps.length = m := by obtain ⟨A', c', e⟩ := h.form; cases e; rfl
    have h0 := h.1
    rw [hl] at h0
    have hs := World.ownsRow.stored h0 j v
    have h1 : HRow (w.setCell ⟨g, j, none⟩ v) base (.slice (some ⟨g, 0, none⟩) m c) ps := by
      refine ⟨?_, h.2⟩
      have h2 := hs.1
      rw [List.set_eq_of_length_le (by simp; omega)] at h2
      rw [hl]; exact h2
    obtain ⟨h3, h4⟩ := HRow.setCells r _ (j + 1) (by omega) h1
    refine ⟨h3, ?_⟩
    exact ⟨h4.os.trans hs.2.os, h4.tape.trans hs.2.tape, h4.output.trans hs.2.output, Nat.le_trans hs.2.size h4.size, fun k hk hne => (h4.block k (Nat.lt_of_lt_of_le hk hs.2.size) hne).trans (hs.2.block k hk hne)⟩
theorem grownBy_trans {w w' w'' : World} {r : Option Nat} (h : w.grownBy w' r) (k : w'.grownBy w'' r) : w.grownBy w'' r :=
  ⟨k.os.trans h.os, k.tape.trans h.tape, k.output.trans h.output, Nat.le_trans h.size k.size, fun i hi hne => (k.block i (Nat.lt_of_lt_of_le hi h.size) hne).trans (h.block i hi hne)⟩
theorem grownBy_drewN {w w' : World} {r : Option Nat} (h : w.grownBy w' r) (q : Nat) : w.grownBy (w'.drewN q) r := ⟨h.os, h.tape, h.output, h.size, h.block⟩
theorem set_take {zs : List HL} {k : Nat} (p : HL) (h : k < zs.length) : (zs.set k p).take (k + 1) = zs.take k ++ [p] := by
  apply List.ext_getElem?
  intro i
  grind
theorem HRow.drewN {w : World} {base : Nat} {v : Value} {ps : List HL} (h : HRow w base v ps) (q : Nat) : HRow (w.drewN q) base v ps := h

theorem HRow.cellOf {w : World} {base g n c : Nat} {ps : List HL} (h : HRow w base (.slice (some ⟨g, 0, none⟩) n c) ps) {j : Nat} {p : HL} (hp : ps[j]? = some p) : w.cell? ⟨g, j, none⟩ = some p.1 ∧ w.frozen? ⟨g, j, none⟩ = false := by
  have hl : ps.length = n := by obtain ⟨A', c', e⟩ := h.form; cases e; rfl
  have hj : j < ps.length := (List.getElem?_eq_some_iff.1 hp).1
  have hr := h.1
  rw [hl] at hr
  refine ⟨by rw [World.ownsRow.cellAt hr j (by omega), List.getElem?_map, hp]; rfl, ?_⟩
  rcases hr.2 with ⟨e1, _⟩ | ⟨g', cap, cur, e1, _, hg, _⟩
  · cases e1
  · cases e1
    exact frozen_of_row w g j cur 23 hg

set_option maxHeartbeats 4000000 in
set_option maxRecDepth 1000000 in
/-- .. at two headers or more. -/
theorem pcpt2 (w : World) (base g n c : Nat) (ps : List HL) (h2 : 2 ≤ n) (hn : n ≤ 17592186044416) (h : HRow w base (.slice (some ⟨g, 0, none⟩) n c) ps) (hin : ∀ p, p ∈ ps → InOff w (some g) p) :
    Calls Tryz.prog 43 #[.slice (some ⟨g, 0, none⟩) n c, .func (.func 30) #[] #[]] w fun e w' =>
      e = .returned (.slice (some ⟨g, 0, none⟩) (cpU ps ps.length).length c) ∧ HRow w' base (.slice (some ⟨g, 0, none⟩) (cpU ps ps.length).length c) (cpU ps ps.length) ∧ w.grownBy w' (some g) := by
  have hl : ps.length = n := by obtain ⟨A', c', e⟩ := h.form; cases e; rfl
  have L := Lib.hid hl
  obtain ⟨hcap, hbg, hgs⟩ := h.cap
  have H := Lib.hid h
  have HIN := Lib.hid hin
  have eE := entE
  have zE : ∀ w, (zeroValue 23).run Tryz.prog w = .ok (.slice none 0 0) w := Tryz.zeroValue23
  clear hl h hin
  go_enter Tryz.func43, Tryz.ntmps43
  go_wp2
  go_loopg [5] n (fun gg s5 wr => ∃ k : Nat, 1 ≤ k ∧ k ≤ n ∧ n - k ≤ gg ∧ s5 = .int .i64 k ∧ HRow wr base (.slice (some ⟨g, 0, none⟩) n c) ps ∧ w.grownBy wr (some g) ∧ Hid (cpU ps k = ps.take k))
  case atStart => exact ⟨1, Nat.le_refl _, by omega, by omega, rfl, H.out, World.grownBy.refl w _, Lib.hid (cpU_first (by rw [L.out]; omega))⟩
  case round =>
    obtain ⟨k, hk1, hk, hg, rfl, hR0, hgr0, hall⟩ := hrel
    have HR := Lib.hid hR0
    have HG := Lib.hid hgr0
    have HIR := Lib.hid (fun p hp => (HIN.out p hp).grown hgr0)
    clear hR0 hgr0
    by_cases hlt : k < n
    · obtain ⟨B1, m1, d1, xs, p1, c1, I1, _⟩ := HR.out.at_ HIR.out hlt
      obtain ⟨kp, hkp⟩ : ∃ kp, kp = k - 1 := ⟨_, rfl⟩
      have kpn : kp < n := by omega
      obtain ⟨B0, m0, d0, ys, p0, c0, I0, _⟩ := HR.out.at_ HIR.out kpn
      have W1 : IntKind.i64.wrap ((k : Int) - 1) = (kp : Int) := by rw [IntKind.wrap_i64]; omega
      rw [hkp] at p0
      have KP := Lib.hid hkp
      clear hkp
      have P1 := Lib.hid p1
      have P0 := Lib.hid p0
      have kl : (k : Int) < (n : Int) := by omega
      have hc1 : k < c := by omega
      have PT := Lib.hid (show (ps.take k).length = k by rw [List.length_take, L.out]; omega)
      clear p1 p0
      by_cases hdup : xs = ys
      · have hcall : ∀ q', Calls Tryz.prog 30 #[.slice B1 m1 d1, .slice B0 m0 d0] (wr.drewN q') fun e w' => e = .returned (.bool true) ∧ ∃ m, w' = (wr.drewN q').drewN m := fun q' => sequal _ _ _ _ _ _ xs ys true _ (I1.drewN q') (I0.drewN q') (by simp [hdup])
        have hdr := cpU_drop' P1.out P0.out (by omega) hdup
        have HD := Lib.hid hdr
        clear I1 I0 hdr hdup
        go_wp2_with fail
        go_quiet ((go_at_fn 30; exact Calls.quiet_of (hcall _)))
        go_wp2
        clear c1 c0 hcall W1
        go_loopg [5, 7] n (fun gg s5 s7 wr => ∃ (kk k2 : Nat) (zs : List HL), s5 = .int .i64 kk ∧ s7 = .int .i64 k2 ∧ 1 ≤ k2 ∧ k + k2 ≤ n ∧ n - (k + k2) ≤ gg ∧ kk < k + k2 ∧ HRow wr base (.slice (some ⟨g, 0, none⟩) n c) zs ∧ Hid (zs.take kk = cpU ps (k + k2)) ∧ Hid (kk = (cpU ps (k + k2)).length) ∧ Hid (∀ j, k + k2 - 1 ≤ j → zs[j]? = ps[j]?) ∧ w.grownBy wr (some g))
        case atStart => exact ⟨k, 1, ps, rfl, rfl, Nat.le_refl _, by omega, by omega, by omega, HR.out.drewN _, Lib.hid (by rw [HD.out, hall.out]), Lib.hid (by rw [HD.out, hall.out, PT.out]), Lib.hid (fun j hj => rfl), grownBy_drewN HG.out _⟩
        case round =>
          obtain ⟨kk, k2, zs, rfl, rfl, h1, hle, hg2, hkk, hR, hT, hK, hhi, hgr⟩ := hrel
          have R2 := Lib.hid hR
          have G2 := Lib.hid hgr
          have LZ := Lib.hid (show zs.length = n by obtain ⟨A', c', e⟩ := hR.form; cases e; rfl)
          clear hR hgr
          by_cases hlt2 : k + k2 < n
          · obtain ⟨Bu, mu, du, us, pu, cu0, Iu0, _⟩ := HR.out.at_ HIR.out (show k + k2 < n by omega)
            obtain ⟨kq, hkq⟩ : ∃ kq, kq = k2 - 1 := ⟨_, rfl⟩
            obtain ⟨Bv, mv, dv, vs, pv, cv0, Iv0, _⟩ := HR.out.at_ HIR.out (show k + kq < n by omega)
            have Iu := Iu0
            have Iv := Iv0
            obtain ⟨Bu', mu', du', e1, Iu, _⟩ := (HIN.out _ (List.mem_of_getElem? pu)).grown G2.out
            cases e1
            obtain ⟨Bv', mv', dv', e1, Iv, _⟩ := (HIN.out _ (List.mem_of_getElem? pv)).grown G2.out
            cases e1
            have zu : zs[k + k2]? = some (.slice Bu mu du, us) := (hhi.out _ (by omega)).trans pu
            have zv : zs[k + kq]? = some (.slice Bv mv dv, vs) := (hhi.out _ (by omega)).trans pv
            have cu := (R2.out.cellOf zu).1
            have cv := (R2.out.cellOf zv).1
            have i3 : kk < n := by omega
            obtain ⟨po, hpo⟩ : ∃ po, zs[kk]? = some po := ⟨_, List.getElem?_eq_getElem (by rw [LZ.out]; exact i3)⟩
            obtain ⟨ck, fk⟩ := R2.out.cellOf hpo
            have W2 : IntKind.i64.wrap ((k2 : Int) - 1) = (kq : Int) := by rw [IntKind.wrap_i64]; omega
            have PU := Lib.hid pu
            have PV := Lib.hid (show ps[k + k2 - 1]? = some (.slice Bv mv dv, vs) by rw [← pv]; congr 1; omega)
            have i1 : k2 < n - k := by omega
            have i2 : kq < n - k := by omega
            simp only at cu cv
            generalize po.1 = old at ck
            clear pu pv zu zv cu0 cv0 Iu0 Iv0 hkq hpo
            by_cases huv : us = vs
            · have hcall : ∀ q', Calls Tryz.prog 30 #[.slice Bu mu du, .slice Bv mv dv] (wr.drewN q') fun e w' => e = .returned (.bool true) ∧ ∃ m, w' = (wr.drewN q').drewN m := fun q' => sequal _ _ _ _ _ _ us vs true _ (Iu.drewN q') (Iv.drewN q') (by simp [huv])
              have HD2 := Lib.hid (cpU_drop' PU.out PV.out (by omega) huv)
              clear Iu Iv huv
              go_wp2_with fail
              go_quiet ((go_at_fn 30; exact Calls.quiet_of (hcall _)))
              clear W2
              go_wp2
              go_roundg (n - (k + (k2 + 1)))
              case measure => omega
              case rel => exact ⟨kk, k2 + 1, zs, rfl, by go_num, by omega, by omega, Nat.le_refl _, by omega, R2.out.drewN _, Lib.hid (by rw [← Nat.add_assoc, HD2.out]; exact hT.out), Lib.hid (by rw [← Nat.add_assoc, HD2.out]; exact hK.out), Lib.hid (fun j hj => hhi.out j (by omega)), grownBy_drewN G2.out _⟩
            · have hcall : ∀ q', Calls Tryz.prog 30 #[.slice Bu mu du, .slice Bv mv dv] (wr.drewN q') fun e w' => e = .returned (.bool false) ∧ ∃ m, w' = (wr.drewN q').drewN m := fun q' => sequal _ _ _ _ _ _ us vs false _ (Iu.drewN q') (Iv.drewN q') (by simp [huv])
              have HD2 := Lib.hid (cpU_keep' PU.out PV.out huv)
              clear Iu Iv huv
              go_wp2_with fail
              go_quiet ((go_at_fn 30; exact Calls.quiet_of (hcall _)))
              clear W2
              go_wp2
              go_roundg (n - (k + (k2 + 1)))
              case measure => omega
              case rel => exact ⟨kk + 1, k2 + 1, zs.set kk (.slice Bu mu du, us), by go_num, by go_num, by omega, by omega, Nat.le_refl _, by omega, (R2.out.drewN _).stored kk Bu mu du us,
                  Lib.hid (by rw [← Nat.add_assoc, HD2.out, ← hT.out]; exact set_take _ (by rw [LZ.out]; exact i3)),
                  Lib.hid (by rw [← Nat.add_assoc, HD2.out, List.length_append, ← hK.out]; rfl),
                  Lib.hid (fun j hj => by rw [List.getElem?_set_ne (by omega)]; exact hhi.out j (by omega)), grownBy_trans (grownBy_drewN G2.out _) (HRow.storedBy (R2.out.drewN _) kk _)⟩
          · have hend : k + k2 = n := by omega
            have hcl : ∀ ty, (Builtin.clear_ #[22] ty #[.slice (some ⟨g, kk, none⟩) (n - kk) (c - kk)]).run Tryz.prog wr = .ok (.tuple #[]) (wr.setCells g kk (List.replicate (n - kk) (.slice none 0 0))) :=
              fun ty => Lib.run_clear_slice wr _ _ ty _ Tryz.underlying22 zE rfl rfl g kk _ _ (by omega)
                (fun j hj => by rw [(R2.out.cellOf (List.getElem?_eq_getElem (show kk + j < zs.length by rw [LZ.out]; omega))).1]; rfl)
                (fun j hj => (R2.out.cellOf (List.getElem?_eq_getElem (show kk + j < zs.length by rw [LZ.out]; omega))).2)
            have KK := Lib.hid (show kk = (cpU ps ps.length).length by rw [hK.out, hend, L.out])
            have TT := Lib.hid (show zs.take kk = cpU ps ps.length by rw [hT.out, hend, L.out])
            have kkc : kk ≤ c := by omega
            have kkn : kk ≤ n := by omega
            have kkc' : kk < c := by omega
            clear hend
            go_wp2
            go_ret
            have hf := HRow.setCells (List.replicate (n - kk) (.slice none 0 0)) wr kk (Nat.le_refl _) (R2.out.cut kkn)
            rw [TT.out] at hf
            exact ⟨by rw [← KK.out]; rfl, by rw [← KK.out]; exact hf.1, grownBy_trans G2.out hf.2⟩
      · have hcall : ∀ q', Calls Tryz.prog 30 #[.slice B1 m1 d1, .slice B0 m0 d0] (wr.drewN q') fun e w' => e = .returned (.bool false) ∧ ∃ m, w' = (wr.drewN q').drewN m := fun q' => sequal _ _ _ _ _ _ xs ys false _ (I1.drewN q') (I0.drewN q') (by simp [hdup])
        have HD := Lib.hid (cpU_keep' P1.out P0.out hdup)
        clear I1 I0 hdup
        go_wp2_with fail
        go_quiet ((go_at_fn 30; exact Calls.quiet_of (hcall _)))
        clear W1
        go_wp2
        go_roundg (n - (k + 1))
        case measure => omega
        case rel => exact ⟨k + 1, by omega, by omega, Nat.le_refl _, by go_num, HR.out.drewN _, grownBy_drewN HG.out _, Lib.hid (by
          obtain ⟨hk', e⟩ := List.getElem?_eq_some_iff.1 P1.out
          rw [HD.out, hall.out, List.take_succ_eq_append_getElem hk', e])⟩
    · obtain rfl : k = n := by omega
      have e := Lib.hid (show cpU ps ps.length = ps by rw [L.out, hall.out, ← L.out, List.take_length])
      go_wp2
      go_ret
      exact ⟨by rw [e.out, L.out]; rfl, by rw [e.out, L.out]; exact HR.out, HG.out⟩
end Go.Proofs.YtakhphhpjcpphaaGreatDoor
end

section
/- different: the different words of a list, sorted by an order; they share memory with the list. -/
namespace Go.Proofs.YtakhphhpjcpphaaGreatDoor
open Go.RowKit Go.Shelf

theorem InAt.off {w : World} {base top : Nat} {v : Value} {ps : List HL} {p : HL} (hp : InAt w top p) (h : HRow w base v ps) (ht : top ≤ base) : InOff w v.ownBlock p := by
  obtain ⟨A, n, c, e, hi, _, ho⟩ := hp
  refine ⟨A, n, c, e, hi, fun a ha hn e2 => ?_⟩
  have h1 := ho a ha hn
  have h2 := (h.lt a.block e2.symm).1
  omega

set_option maxHeartbeats 1000000 in
set_option maxRecDepth 100000 in
theorem pcompact (w : World) (base : Nat) (A : Option Addr) (n c : Nat) (ps : List HL) (hn : n ≤ 17592186044416) (h : HRow w base (.slice A n c) ps) (hin : ∀ p, p ∈ ps → InOff w (Value.ownBlock (.slice A n c)) p) :
    Calls Tryz.prog 43 #[.slice A n c, .func (.func 30) #[] #[]] w fun e w' =>
      e = .returned (.slice A (cpU ps ps.length).length c) ∧ HRow w' base (.slice A (cpU ps ps.length).length c) (cpU ps ps.length) ∧ w.grownBy w' (Value.ownBlock (.slice A n c)) := by
  have hl : ps.length = n := by obtain ⟨A', c', e⟩ := h.form; cases e; rfl
  by_cases h2 : 2 ≤ n
  · rcases h.1.2 with ⟨e, h0⟩ | ⟨g, cap, cur, e, _⟩
    · omega
    · have e' := e
      injection e with e1 e2 e3
      subst e1
      exact pcpt2 w base g n c ps h2 hn h hin
  · have e := Lib.hid (cpU_one (ps := ps) (by omega))
    have L := Lib.hid hl
    have HH := Lib.hid h
    clear h hin hl
    go_enter Tryz.func43, Tryz.ntmps43
    go_wp2
    go_ret
    exact ⟨by rw [e.out, L.out]; rfl, by rw [e.out, L.out]; exact HH.out, World.grownBy.refl w _⟩

/-- A row of different words that lie below the call's own blocks. -/
def Diff (o : List Int → List Int → Int) (w : World) (A : Option Addr) (m c : Nat) (xss : List (List Int)) (w' : World) : Prop :=
  ∃ qs : List HL, HRow w' w.heap.size (.slice A m c) qs ∧ (∀ q, q ∈ qs → InAt w' w.heap.size q) ∧ Below w.heap.size w w' ∧ (qs.map Prod.snd).Pairwise (fun x y => o x y < 0) ∧ (∀ x, x ∈ qs.map Prod.snd ↔ x ∈ xss) ∧ m ≤ xss.length

set_option maxHeartbeats 1000000 in
theorem pdifferent (f : Nat) (o : List Int → List Int → Int) (O : TotO o) (ef : ∀ args w, (callFunc f args).run Tryz.prog w = .ok (.enter f args) w) (hord : OrdC f o) (w : World) (A : Option Addr) (n c : Nat) (xss : List (List Int)) (h : ListsC w A n xss) (hn : n ≤ 1759218604441) :
    Calls Tryz.prog 25 #[.slice A n c, .func (.func f) #[] #[]] w fun e w' => ∃ A' m c', e = .returned (.slice A' m c') ∧ Diff o w A' m c' xss w' := by
  obtain ⟨ps, hps, hd, hin⟩ := h.hds
  have hpl := Lib.hid hd.1
  have HD := Lib.hid hd
  have HIN := Lib.hid hin
  have HPS := Lib.hid hps
  have XL := Lib.hid h.1
  have OO := Lib.hid O
  have OC := Lib.hid hord
  clear h hps hd hin O hord
  go_enter Tryz.func25, Tryz.ntmps25
  go_wp2_with fail
  refine (sconcath1 A n c ps w HD.out hn).mono ?_
  rintro e w1 ⟨A1, c1, rfl, r1, b1⟩
  have R1 := Lib.hid r1
  have B1 := Lib.hid b1
  have IN1 := Lib.hid (fun p hp => (HIN.out p hp).below b1)
  clear r1 b1
  go_wp2_with fail
  refine (parrange f o OO.out ef OC.out w1 w.heap.size A1 n c1 ps (by omega) R1.out (fun p hp => (IN1.out p hp).off R1.out (Nat.le_refl _))).mono ?_
  rintro e w2 ⟨rfl, ps', hp', hs', r2, g2⟩
  have PP := Lib.hid hp'
  have SS := Lib.hid hs'
  have R2 := Lib.hid r2
  have G2 := Lib.hid g2
  have B2 := Lib.hid ((Below.refl w1.heap.size w1 |>.mono B1.out.size).grown g2 B1.out.size (fun k hk => (R1.out.lt k hk).1))
  have IN2 := Lib.hid (show ∀ p, p ∈ ps' → InAt w2 w.heap.size p from fun p hp => (IN1.out p (PP.out.mem_iff.1 hp)).on B2.out)
  clear hp' hs' r2 g2
  go_wp2_with fail
  refine (pcompact w2 w.heap.size A1 n c1 ps' (by omega) R2.out (fun p hp => (IN2.out p hp).off R2.out (Nat.le_refl _))).mono ?_
  rintro e w3 ⟨rfl, r3, g3⟩
  have R3 := Lib.hid r3
  have B3 := Lib.hid ((Below.refl w2.heap.size w2 |>.mono (Nat.le_trans B1.out.size B2.out.size)).grown g3 (Nat.le_trans B1.out.size B2.out.size) (fun k hk => (R2.out.lt k hk).1))
  clear r3 g3
  go_wp2
  go_ret
  have hall := cpU_all OO.out SS.out
  refine ⟨A1, _, c1, rfl, _, R3.out, fun q hq => (IN2.out q (cpU_sub ps' _ q hq)).on B3.out, B1.out.trans (B2.out.trans B3.out), hall.1, fun x => (hall.2 x).trans ?_, ?_⟩
  · rw [(PP.out.map Prod.snd).mem_iff, HPS.out]
  · have h1 := cpU_le ps' ps'.length
    have h2 := PP.out.length_eq
    rw [XL.out]
    have h3 := hpl.out
    omega
end Go.Proofs.YtakhphhpjcpphaaGreatDoor
end

section
/- The walk of slices.Grow of a nil slice. -/
namespace Go.Proofs.YtakhphhpjcpphaaGreatDoor
open Go.RowKit

set_option maxHeartbeats 1000000 in
set_option maxRecDepth 100000 in
theorem grow_nil (N : Nat) (hN : N ≤ 17592186044416) (w : World) :
    Calls Tryz.prog 64 #[.slice none 0 0, .int .i64 N] w fun e w' => ∃ v, e = .returned v ∧ w'.ownsRow w.heap.size 3 1 v 0 [] ∧ Below w.heap.size w w' := by
  obtain ⟨i0, hi, hz0, hz1, hz2⟩ := info_parts info3
  by_cases h0 : N = 0
  · subst h0
    go_enter Tryz.func64, Tryz.ntmps64
    go_wp2
    go_ret
    exact ⟨_, rfl, World.ownsRow_nil _ _ _ _, Below.refl _ _⟩
  · have happ := Lib.run_append_nil_zeros (P := Tryz.prog) w 23 3 23 3 i0 (.int .i64 0) .i64 .i64 Tryz.underlying23 Tryz.underlying3 hi hz0 N (by omega) (by omega) (by omega) (by rw [hz2]; omega)
    have hge := grownCap_ge w N 0 3
    have hcm := grownCap_le_maxLen w N 0 3 (by unfold maxLen; omega)
    generalize grownCap w N 0 3 = cap at happ hge hcm
    generalize hZ : (Builtin.zeroCells (Value.int .i64 0).cells N ++ Builtin.zeroCells (Value.int .i64 0).cells (cap - N)) = Z at happ
    have hZs : Z.size = cap := by rw [← hZ]; simp [size_zeroCells, Value.cells]; omega
    have hp : (0 : Int) < N := by omega
    have HZ := Lib.hid hZs
    clear hZ hZs
    have hmx : cap ≤ 9223372036854775807 := by unfold maxLen at hcm; omega
    go_enter Tryz.func64, Tryz.ntmps64
    go_wp2_with (at_builtin; refine Lib.wpList_append_run _ rfl _ _ _ _ rfl _ _ rfl rfl _ _ happ ?_)
    go_ret
    refine ⟨_, rfl, ?_, (Below.refl _ _).drew.alloc (Nat.le_refl _) _⟩
    refine ⟨by simp, .inr ⟨w.heap.size, cap, Z, rfl, Nat.le_refl _, heap_alloc_new w _, Nat.zero_le _, hcm, by rw [HZ.out]; simp, by simp⟩⟩
end Go.Proofs.YtakhphhpjcpphaaGreatDoor
end

section
/- slices.Concat of lists of numbers. -/
namespace Go.Proofs.YtakhphhpjcpphaaGreatDoor
open Go.RowKit

set_option maxHeartbeats 1000000 in
set_option maxRecDepth 100000 in
theorem sconcat (A : Option Addr) (n c : Nat) (xss : List (List Int)) (w : World) (h : Lists w A n xss) (hlen : xss.flatten.length ≤ 17592186044416) :
    Calls Tryz.prog 52 #[.slice A n c] w fun e w' => ∃ A' c', e = .returned (.slice A' xss.flatten.length c') ∧ Owned w' w.heap.size (.slice A' xss.flatten.length c') xss.flatten ∧ Below w.heap.size w w' := by
  have L := Lib.hid h.1
  have hn := h.2.1
  have hall := Lib.hid (show cat xss n = xss.flatten by rw [← L.out, cat_all])
  have hcl := Lib.hid (fun j => Nat.le_trans (cat_len xss j) hlen)
  clear hlen
  go_enter Tryz.func52, Tryz.ntmps52
  go_wp2
  go_loop [3, 11] (fun s i => ∃ k : Nat, k ≤ n ∧ i = .int .i64 k ∧ s = .int .i64 (cat xss k).length) (fun _ i => n - (intOf i).toNat)
  case atStart => exact ⟨0, Nat.zero_le _, rfl, by rw [cat_zero]; rfl⟩
  case round =>
    obtain ⟨k, hk, rfl, rfl⟩ := hrel
    by_cases hlt : k < n
    · obtain ⟨b, off, Aj, nj, cj, rfl, _, hcell, hI⟩ := h.at_ hlt
      have hs : (cat xss (k + 1)).length = (cat xss k).length + nj := by rw [cat_succ (by rw [L.out]; exact hlt), List.length_append, hI.1]
      have hc1 := hcl.out (k + 1)
      generalize (cat xss k).length = a at hs
      generalize hz : (cat xss (k + 1)).length = z at hs hc1
      have HZ := Lib.hid hz
      have u1 : ((a : Int) + (nj : Int)) = (z : Int) := by omega
      have d1 : decide (((z : Nat) : Int) < 0) = false := by simp
      clear hI hz hs
      go_wp2
      go_round
      case rel => exact ⟨k + 1, by omega, by go_num, by rw [HZ.out]⟩
      case measure => simp [intOf]; omega
    · obtain rfl : k = n := by omega
      rw [hall.out]
      have hf := hcl.out k
      rw [hall.out] at hf
      obtain ⟨F, hF⟩ : ∃ F : Nat, F = xss.flatten.length := ⟨_, rfl⟩
      rw [← hF] at hf ⊢
      have HF := Lib.hid hF
      clear hF
      go_wp2_with fail
      refine (grow_nil F hf _).mono ?_
      rintro e w1 ⟨v1, rfl, o1, b1⟩
      have O1 := Lib.hid (show Owned w1 w.heap.size v1 [] from o1)
      clear o1
      go_wp2
      go_loopw [6, 27] (fun v i wr => ∃ q : Nat, q ≤ k ∧ i = .int .i64 q ∧ Owned wr w.heap.size v (cat xss q) ∧ Below w.heap.size w wr) (fun _ i _ => k - (intOf i).toNat)
      case atStart => exact ⟨0, Nat.zero_le _, rfl, by rw [cat_zero]; exact O1.out, b1⟩
      case round =>
        obtain ⟨q, hq, rfl, hown, hbr⟩ := hrel
        by_cases hlt : q < k
        · obtain ⟨b, off, Aj, nj, cj, rfl, _, hcell, hI⟩ := (h.below hbr).at_ hlt
          have hs := Lib.hid (cat_succ (xss := xss) (j := q) (by rw [L.out]; exact hlt))
          have hb2 := hcl.out (q + 1)
          rw [hs.out] at hb2
          obtain ⟨v', w', hr, ho', _, hbel'⟩ := run_append_ints _ _ _ _ _ _ _ cj hown hI hbr.size hb2
          rw [← hs.out] at ho'
          have O2 := Lib.hid ho'
          have B2 := Lib.hid (hbr.trans hbel')
          clear hb2 hI hown hbr ho' hbel'
          go_wp2_with (at_builtin; refine Lib.wpList_append_run _ rfl _ _ _ _ rfl _ _ rfl rfl _ _ hr ?_)
          go_roundw
          case rel => exact ⟨q + 1, by omega, by go_num, O2.out, B2.out⟩
          case measure => simp [intOf]; omega
        · obtain rfl : q = k := by omega
          rw [hall.out] at hown
          have hf2 := hown.form
          obtain ⟨A2, c2, rfl⟩ := hf2
          have O2 := Lib.hid hown
          clear hown
          go_wp2
          go_ret
          exact ⟨A2, c2, rfl, O2.out, hbr⟩
end Go.Proofs.YtakhphhpjcpphaaGreatDoor
end

section
/- word.Join. -/
namespace Go.Proofs.YtakhphhpjcpphaaGreatDoor
open Go.RowKit

theorem wjoin (A : Option Addr) (n c : Nat) (xss : List (List Int)) (w : World) (h : Lists w A n xss) (hlen : xss.flatten.length ≤ 17592186044416) :
    Calls Tryz.prog 37 #[.slice A n c] w fun e w' => ∃ v, e = .returned v ∧ Owned w' w.heap.size v xss.flatten ∧ Below w.heap.size w w' := by
  go_enter Tryz.func37, Tryz.ntmps37
  go_wp2_with fail
  refine (sconcat A n c xss _ h hlen).mono ?_
  rintro e w' ⟨A', c', rfl, h1, h2⟩
  generalize Value.slice A' xss.flatten.length c' = v at h1 ⊢
  go_wp2
  go_ret
  exact ⟨_, rfl, h1, h2⟩

/-- A list of one list, as a literal makes it. -/
theorem Lists.one (w : World) (A : Option Addr) (n c : Nat) (xs : List Int) (h : Ints w A n xs) :
    Lists (w.alloc (.cells #[.slice A n c] 23)) (some ⟨w.heap.size, 0, none⟩) 1 [xs] := by
  have hb : Below w.heap.size w (w.alloc (.cells #[.slice A n c] 23)) := (Below.refl _ _).alloc (Nat.le_refl _) _
  refine ⟨rfl, by omega, fun _ => ⟨w.heap.size, 0, rfl, by simp, fun j hj => ?_⟩⟩
  obtain rfl : j = 0 := by omega
  refine ⟨A, n, c, ?_, h.below hb⟩
  have := cell_of_row (w.alloc (.cells #[.slice A n c] 23)) w.heap.size 0 #[.slice A n c] 23 (0, 0) (heap_alloc_new w _)
  rw [Nat.zero_add, this]; rfl

/-- Join of one word. -/
theorem wjoin1 (A : Option Addr) (n c : Nat) (xs : List Int) (w : World) (h : Ints w A n xs) :
    Calls Tryz.prog 37 #[.slice (some ⟨w.heap.size, 0, none⟩) 1 1] (w.alloc (.cells #[.slice A n c] 23)) fun e w' => ∃ A' c', e = .returned (.slice A' n c') ∧ Owned w' w.heap.size (.slice A' n c') xs ∧ Below w.heap.size w w' := by
  refine (wjoin _ _ _ [xs] _ (Lists.one w A n c xs h) (by simp; rw [h.1]; exact h.2.1)).mono ?_
  rintro e w' ⟨v, rfl, hv, hb⟩
  rw [show ([xs] : List (List Int)).flatten = xs by simp] at hv
  obtain ⟨A', c', e⟩ := hv.form
  rw [h.1] at e
  subst e
  refine ⟨A', c', rfl, hv.lower (by simp), ((Below.refl _ _).alloc (Nat.le_refl _) _).trans (hb.mono (by simp))⟩
end Go.Proofs.YtakhphhpjcpphaaGreatDoor
end

section
/- Rows of words of one's own, in blocks apart; copies. -/
namespace Go.Proofs.YtakhphhpjcpphaaGreatDoor
open Go.RowKit Go.Shelf

/-- Rows of one's own, in blocks apart from each other. -/
def OwnR (w : World) (base : Nat) (v : Value) (qs : List HL) : Prop :=
  HRow w base v qs ∧ (∀ q, q ∈ qs → Owned w base q.1 q.2) ∧ qs.Pairwise fun p q => ∀ g, p.1.ownBlock = some g → q.1.ownBlock ≠ some g
/-- The slice value v is a row of the words xss, in blocks from base on, which the call may write, apart from each other. -/
def OwnW (w : World) (base : Nat) (v : Value) (xss : List (List Int)) : Prop := ∃ qs, OwnR w base v qs ∧ qs.map Prod.snd = xss

theorem OwnR.nil (w : World) (base : Nat) : OwnR w base (.slice none 0 0) [] := ⟨HRow.nil w base, fun q h => absurd h (by simp), List.Pairwise.nil⟩
theorem OwnR.kept {w w' : World} {base : Nat} {v : Value} {qs : List HL} (h : OwnR w base v qs) (hb : Below w.heap.size w w') : OwnR w' base v qs := ⟨h.1.kept hb, fun q hq => (h.2.1 q hq).kept hb, h.2.2⟩
theorem OwnR.lower {w : World} {base base' : Nat} {v : Value} {qs : List HL} (h : OwnR w base v qs) (hb : base' ≤ base) : OwnR w base' v qs := ⟨h.1.lower hb, fun q hq => (h.2.1 q hq).lower hb, h.2.2⟩
theorem OwnW.kept {w w' : World} {base : Nat} {v : Value} {xss : List (List Int)} (h : OwnW w base v xss) (hb : Below w.heap.size w w') : OwnW w' base v xss := by
  obtain ⟨qs, h, e⟩ := h
  exact ⟨qs, h.kept hb, e⟩
theorem OwnW.lower {w : World} {base base' : Nat} {v : Value} {xss : List (List Int)} (h : OwnW w base v xss) (hb : base' ≤ base) : OwnW w base' v xss := by
  obtain ⟨qs, h, e⟩ := h
  exact ⟨qs, h.lower hb, e⟩
theorem OwnW.form {w : World} {base : Nat} {v : Value} {xss : List (List Int)} (h : OwnW w base v xss) : ∃ A c, v = .slice A xss.length c := by
  obtain ⟨qs, h, e⟩ := h
  obtain ⟨A, c, e2⟩ := h.1.form
  exact ⟨A, c, by rw [e2, ← e, List.length_map]⟩
theorem Owned.bounds {w : World} {base : Nat} {v : Value} {xs : List Int} (h : Owned w base v xs) : ∃ A c, v = .slice A xs.length c ∧ xs.length ≤ c ∧ ∀ a, A = some a → a.block < w.heap.size ∧ base ≤ a.block := by
  rcases h.2 with ⟨rfl, h0⟩ | ⟨g, cap, cur, rfl, hb, hg, hc, _⟩
  · exact ⟨none, 0, by rw [h0], by omega, fun a h => by cases h⟩
  · exact ⟨_, cap, rfl, hc, fun a h => by cases h; exact ⟨heap_lt hg, hb⟩⟩
theorem OwnR.inAt {w : World} {base : Nat} {v : Value} {qs : List HL} (h : OwnR w base v qs) (hr : ∀ q, q ∈ qs → q.2.length ≤ 17592186044416) : ∀ q, q ∈ qs → InAt w w.heap.size q := fun q hq => by
  have ho := h.2.1 q hq
  obtain ⟨A, c, e, hc, hb⟩ := ho.bounds
  exact ⟨A, _, c, e, (by rw [e] at ho; exact ho.ints (hr q hq)), hc, fun a ha _ => (hb a ha).1⟩
theorem OwnR.off {w : World} {base : Nat} {v : Value} {qs : List HL} (h : OwnR w base v qs) (hr : ∀ q, q ∈ qs → q.2.length ≤ 17592186044416) : ∀ q, q ∈ qs → InOff w v.ownBlock q := fun q hq => by
  have ho := h.2.1 q hq
  obtain ⟨A, c, e, hc, hb⟩ := ho.bounds
  refine ⟨A, _, c, e, (by rw [e] at ho; exact ho.ints (hr q hq)), fun a ha hn e2 => ?_⟩
  subst ha
  rw [e] at ho
  rcases ho.2 with ⟨e3, _⟩ | ⟨g, cap, cur, e3, _, hg, _⟩
  · cases e3
  · cases e3
    rcases h.1.1.2 with ⟨e4, _⟩ | ⟨g', cap', cur', e4, _, hg', _⟩
    · rw [e4] at e2; simp [Value.ownBlock] at e2
    · rw [e4] at e2
      have : g = g' := by simpa [Value.ownBlock] using e2
      subst this
      rw [hg] at hg'
      injection hg' with hg'
      injection hg' with _ h2 _
      exact absurd h2 (by decide)
theorem OwnW.lists {w : World} {base : Nat} {A : Option Addr} {n c : Nat} {xss : List (List Int)} (h : OwnW w base (.slice A n c) xss) (hm : xss.length ≤ 17592186044416) (hr : ∀ x, x ∈ xss → x.length ≤ 17592186044416) : ListsC w A n xss := by
  obtain ⟨qs, h, rfl⟩ := h
  exact (h.1.hds (by rw [List.length_map] at hm; exact hm)).lists (h.inAt fun q hq => hr _ (List.mem_map_of_mem hq))

/-- One more row of one's own: what its append leaves. -/
theorem OwnR.app {w0 w w' : World} {base : Nat} {v v' : Value} {qs : List HL} {B : Option Addr} {m d : Nat} {xs : List Int} (h : OwnR w0 base v qs) (hb0 : Below w0.heap.size w0 w) (hx : Owned w w0.heap.size (.slice B m d) xs) (hbase : base ≤ w0.heap.size)
    (hr : HRow w' base v' (qs ++ [(.slice B m d, xs)])) (hg : w.grownBy w' v.ownBlock) : OwnR w' base v' (qs ++ [(.slice B m d, xs)]) := by
  have h1 := h.kept hb0
  have hk : KeptT 3 w w' := KeptT.grown hg h1.1.1 (by decide)
  refine ⟨hr, fun q hq => ?_, ?_⟩
  · rcases List.mem_append.1 hq with hq | hq
    · exact (h1.2.1 q hq).keptT hk
    · rw [List.mem_singleton] at hq
      subst hq
      exact (hx.lower hbase).keptT hk
  · refine List.pairwise_append.2 ⟨h.2.2, by simp, fun p hp q hq => ?_⟩
    rw [List.mem_singleton] at hq
    subst hq
    intro g e1 e2
    have a := (World.ownsRow.lt (h.2.1 p hp) g e1).2
    have b := (World.ownsRow.lt hx g e2).1
    omega

set_option maxHeartbeats 1000000 in
set_option maxRecDepth 100000 in
theorem pcopies (w : World) (A : Option Addr) (n c : Nat) (xss : List (List Int)) (h : ListsC w A n xss) (hn : n ≤ 1759218604441) :
    Calls Tryz.prog 24 #[.slice A n c] w fun e w' => ∃ v, e = .returned v ∧ OwnW w' w.heap.size v xss ∧ Below w.heap.size w w' := by
  have L := Lib.hid h.1
  have HL0 := Lib.hid h
  clear h
  go_enter Tryz.func24, Tryz.ntmps24
  go_wp2
  go_loopw [3, 8] (fun v i wr => ∃ (k : Nat) (qs : List HL), k ≤ n ∧ i = .int .i64 k ∧ OwnR wr w.heap.size v qs ∧ Hid (qs.map Prod.snd = xss.take k) ∧ Below w.heap.size w wr) (fun _ i _ => n - (intOf i).toNat)
  case atStart => exact ⟨0, [], Nat.zero_le _, rfl, OwnR.nil _ _, Lib.hid (by simp), Below.refl _ _⟩
  case round =>
    obtain ⟨k, qs, hk, rfl, hown, hq, hbr⟩ := hrel
    by_cases hlt : k < n
    · obtain ⟨b, off, Aj, nj, cj, rfl, _, hcell, _, hI⟩ := (HL0.out.below hbr).at_ hlt
      have HO := Lib.hid hown
      have HB := Lib.hid hbr
      have QL := Lib.hid (show qs.length = k by have := congrArg List.length hq.out; rw [List.length_map, List.length_take, L.out] at this; omega)
      clear hown hbr
      go_wp2_with fail
      refine (wjoin1 Aj nj cj _ wr hI).mono ?_
      rintro e w1 ⟨A1, c1, rfl, ho1, hb1⟩
      have H1 := HO.out.kept hb1
      obtain ⟨A2, c2, w2, hr, h2, hg2, hb2⟩ := run_append_head (B := A1) (m := nj) (d := c1) H1.1 (xss.getD k []) (Nat.le_trans HB.out.size hb1.size) (by rw [QL.out]; omega)
      have H2 := Lib.hid (HO.out.app hb1 ho1 HB.out.size h2 hg2)
      have B2 := Lib.hid (HB.out.trans ((hb1.mono HB.out.size).trans hb2))
      rw [QL.out] at hr H2
      clear hI ho1 hb1 H1 h2 hg2 hb2
      go_wp2_with (at_builtin; refine Lib.wpList_append_run _ rfl _ _ _ _ rfl _ _ rfl rfl _ _ hr ?_)
      go_roundw
      case rel => exact ⟨k + 1, _, by omega, by go_num, H2.out, Lib.hid (by
        rw [List.map_append, hq.out, List.take_succ_eq_append_getElem (by rw [L.out]; exact hlt)]
        simp [List.getD, show k < xss.length by rw [L.out]; exact hlt]), B2.out⟩
      case measure => simp [intOf]; omega
    · obtain rfl : k = n := by omega
      have H2 := Lib.hid hown
      clear hown
      go_wp2
      go_ret
      exact ⟨_, rfl, ⟨qs, H2.out, by rw [hq.out, ← L.out, List.take_length]⟩, hbr⟩
end Go.Proofs.YtakhphhpjcpphaaGreatDoor
end
