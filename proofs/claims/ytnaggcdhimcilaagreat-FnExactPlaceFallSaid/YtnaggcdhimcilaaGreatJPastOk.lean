/- Small facts on memory: a block that is known whole, and how it stays known. Of whatever program. -/
import Derived.WalkKit
import Derived.WalkSpells
import Derived.Lib.SmallJoins
import Derived.Deep.RegionHeld3
import Derived.Deep.DrawnRows
import Derived.Test.YtnaggcdhimcilaaGreatProg
import Derived.WalkLawsBesides
import Derived.Laws.MakeOwn
namespace Go.Proofs.YtnaggcdhimcilaaGreat
open Go.RowKit Go.Joins

/-- Block g holds just these cells, of element type t, none of them frozen. -/
def Blk (w : World) (g : Nat) (t : TypeId) (cs : Array Value) : Prop := w.heap[g]? = some (.cells cs t (0, 0))

theorem hide {p : Prop} (h : p) : Hid p := h

section
variable {w w' : World} {g : Nat} {t : TypeId} {cs : Array Value}
theorem Blk.inside (h : Blk w g t cs) : g < w.heap.size := by
  apply Classical.byContradiction
  intro hn
  have : w.heap[g]? = none := Array.getElem?_eq_none (by omega)
  unfold Blk at h
  rw [this] at h
  cases h
theorem Blk.at (h : Blk w g t cs) (i : Nat) : w.cell? ⟨g, i, none⟩ = cs[i]? := cell_of_block h i
theorem Blk.loose (h : Blk w g t cs) (i : Nat) : w.frozen? ⟨g, i, none⟩ = false := unfrozen_of_block h i
theorem Blk.made (w : World) (t : TypeId) (cs : Array Value) : Blk (w.alloc (.cells cs t)) w.heap.size t cs := by
  show (w.heap.push _)[w.heap.size]? = _
  rw [Array.getElem?_push, if_pos rfl]
theorem Blk.more (h : Blk w g t cs) (o : Obj) : Blk (w.alloc o) g t cs := (Below.heap_alloc w o g h.inside).trans h
theorem Blk.past (h : Blk w g t cs) {B : Nat} (hb : Below B w w') (hg : g < B) : Blk w' g t cs := (hb.block g hg).trans h
theorem Blk.on (h : Blk w g t cs) (hb : Below w.heap.size w w') : Blk w' g t cs := h.past hb h.inside
theorem Blk.aside (h : Blk w g t cs) {p : Addr} (hp : g ≠ p.block) (u : Value) : Blk (w.setCell p u) g t cs := (Below.heap_setCell w p u g hp).trans h
theorem Blk.put (h : Blk w g t cs) (i : Nat) (u : Value) : Blk (w.setCell ⟨g, i, none⟩ u) g t (cs.setIfInBounds i u) := block_setCell h u
theorem Blk.kept (h : Blk w g t cs) {row : Option Nat} (hb : w.grownBy w' row) (hg : row ≠ some g) : Blk w' g t cs := (hb.block g h.inside (fun e => hg e.symm)).trans h
/-- A block of two cells, as rules for a walk. -/
theorem Blk.two {a b : Value} (h : Blk w g t #[a, b]) : w.cell? ⟨g, 0, none⟩ = some a ∧ w.cell? ⟨g, 1, none⟩ = some b ∧ w.frozen? ⟨g, 0, none⟩ = false ∧ w.frozen? ⟨g, 1, none⟩ = false := ⟨h.at 0, h.at 1, h.loose 0, h.loose 1⟩
theorem Blk.one {a : Value} (h : Blk w g t #[a]) : w.cell? ⟨g, 0, none⟩ = some a ∧ w.frozen? ⟨g, 0, none⟩ = false := ⟨h.at 0, h.loose 0⟩
theorem Blk.drew (h : Blk w g t cs) : Blk w.drew g t cs := h
end

/-- What a walk knows of memory between two calls: nothing older than the call has turned; these blocks, made by the call and numbered below n, are known whole. -/
structure Inv (w : World) (n : Nat) (bs : List (Nat × TypeId × Array Value)) (w' : World) : Prop where
  below : Below w.heap.size w w'
  room : n ≤ w'.heap.size
  blk : ∀ x ∈ bs, w.heap.size ≤ x.1 ∧ x.1 < n ∧ Blk w' x.1 x.2.1 x.2.2

section
variable {w w1 w2 : World} {n : Nat} {bs : List (Nat × TypeId × Array Value)}
theorem Inv.start (w : World) : Inv w w.heap.size [] w := ⟨Below.refl _ _, Nat.le_refl _, by simp⟩
theorem Inv.on (h : Inv w n bs w1) (hb : Below w1.heap.size w1 w2) : Inv w n bs w2 :=
  ⟨h.below.trans (hb.mono h.below.size), Nat.le_trans h.room hb.size, fun x hx => ⟨(h.blk x hx).1, (h.blk x hx).2.1, (h.blk x hx).2.2.on hb⟩⟩
theorem Inv.drew (h : Inv w n bs w1) : Inv w n bs w1.drew := ⟨h.below.drew, h.room, fun x hx => ⟨(h.blk x hx).1, (h.blk x hx).2.1, (h.blk x hx).2.2⟩⟩
theorem Inv.alloc (h : Inv w n bs w1) (o : Obj) : Inv w n bs (w1.alloc o) := h.on (below_alloc1 w1 o)
theorem Inv.set (h : Inv w n bs w1) {p : Addr} (hp : n ≤ p.block) (hw : w.heap.size ≤ p.block) (u : Value) : Inv w n bs (w1.setCell p u) :=
  ⟨h.below.setCell hw u, by simpa [World.setCell] using h.room, fun x hx => ⟨(h.blk x hx).1, (h.blk x hx).2.1, (h.blk x hx).2.2.aside (by have := (h.blk x hx).2.1; omega) u⟩⟩
theorem Inv.base (h : Inv w n bs w1) : w.heap.size ≤ w1.heap.size := h.below.size
/-- A boxed argument, a variable: a new block, known whole from now on. -/
theorem Inv.box (h : Inv w w1.heap.size bs w1) (t : TypeId) (cs : Array Value) : Inv w (w1.alloc (.cells cs t)).heap.size ((w1.heap.size, t, cs) :: bs) (w1.alloc (.cells cs t)) :=
  ⟨(h.alloc _).below, Nat.le_refl _, fun x hx => by
    rcases List.mem_cons.1 hx with rfl | hx
    · exact ⟨h.below.size, by simp, Blk.made _ _ _⟩
    · exact ⟨(h.blk x hx).1, by have := (h.blk x hx).2.1; simp; omega, (h.blk x hx).2.2.more _⟩⟩
/-- One block more is known. -/
theorem Inv.add (h : Inv w n bs w1) {g : Nat} {t : TypeId} {cs : Array Value} (hg : w.heap.size ≤ g) (hb : Blk w1 g t cs) : Inv w w1.heap.size ((g, t, cs) :: bs) w1 :=
  ⟨h.below, Nat.le_refl _, fun x hx => by
    rcases List.mem_cons.1 hx with rfl | hx
    · exact ⟨hg, hb.inside, hb⟩
    · exact ⟨(h.blk x hx).1, Nat.lt_of_lt_of_le (h.blk x hx).2.1 h.room, (h.blk x hx).2.2⟩⟩
theorem Inv.top (h : Inv w n bs w1) : Inv w w1.heap.size bs w1 :=
  ⟨h.below, Nat.le_refl _, fun x hx => ⟨(h.blk x hx).1, Nat.lt_of_lt_of_le (h.blk x hx).2.1 h.room, (h.blk x hx).2.2⟩⟩
theorem Inv.get (h : Inv w n bs w1) {g : Nat} {t : TypeId} {cs : Array Value} (hx : (g, t, cs) ∈ bs) : Blk w1 g t cs := (h.blk _ hx).2.2
/-- The newest block holds something else. -/
theorem Inv.swap {o o' : Obj} (h : Inv w n bs (w1.alloc o)) (hn : n ≤ w1.heap.size) (hw : w.heap.size ≤ w1.heap.size) : Inv w n bs (w1.alloc o') := by
  have hb : Below w1.heap.size (w1.alloc o) (w1.alloc o') := ⟨rfl, rfl, rfl, by simp, fun k hk => (Below.heap_alloc w1 o' k hk).trans (Below.heap_alloc w1 o k hk).symm⟩
  refine ⟨h.below.trans (hb.mono hw), by simp; omega, fun x hx => ⟨(h.blk x hx).1, (h.blk x hx).2.1, (h.blk x hx).2.2.past hb ?_⟩⟩
  have := (h.blk x hx).2.1
  omega
theorem Inv.sub (h : Inv w n bs w1) {bs' : List (Nat × TypeId × Array Value)} (hs : ∀ x ∈ bs', x ∈ bs) : Inv w n bs' w1 := ⟨h.below, h.room, fun x hx => h.blk x (hs x hx)⟩
theorem Inv.nth (h : Inv w n bs w1) {g : Nat} {t : TypeId} {cs : Array Value} (i : Nat) (hx : bs[i]? = some (g, t, cs)) : Blk w1 g t cs := h.get (List.mem_of_getElem? hx)
end
theorem grown_none {w w' : World} {row : Option Nat} (h : Below w.heap.size w w') : w.grownBy w' row := ⟨h.os, h.tape, h.output, h.size, fun i hi _ => h.block i hi⟩
end Go.Proofs.YtnaggcdhimcilaaGreat
/- Moves in a region that draws its order, one by one: an operation that yields in every world that meets S is taken first; one whose guard says no is passed over. Of whatever program. -/
namespace Go.Proofs.YtnaggcdhimcilaaGreat
open Go.RowKit

section
variable {P : Program} {ops : Array Oper} {Q : Exit → Act → World → Prop} {md : Region.Mode} {S : World → Prop}
theorem take_run (i : Nat) (d : Option Tmp) {oi : Oper} {v : Value} {fuel : Nat} {listed : Array Bool} {a : Act} {w : World} (hi : ops[i]? = some oi) (hd : oi.dst = d)
    (hs : Region.noSelect ops = true) (hf : Region.free md ops listed i = true) (hr : (Region.ready md ops listed).contains i = true)
    (hQ : ∀ c a w, Q (.panic c) (a.put d v) w → Q (.panic c) a w) (hw : Region.wanted oi (yielded ops a.tmps) = true)
    (hy : ∀ w, S w → (execOp a.eval oi).run P w = .ok (.value v) w) (hS : S w)
    (h : wpAnyH P md ops Q S fuel (listed.setIfInBounds i true) (a.put d v) w) : wpAnyH P md ops Q S (fuel + 1) listed a w := by
  subst hd
  exact wpAnyH_take hi hs hf hr hQ (Or.inl ⟨hw, hy⟩) hS h
theorem take_skip (i : Nat) (d : Option Tmp) {oi : Oper} {fuel : Nat} {listed : Array Bool} {a : Act} {w : World} (hi : ops[i]? = some oi) (hd : oi.dst = d)
    (hs : Region.noSelect ops = true) (hf : Region.free md ops listed i = true) (hr : (Region.ready md ops listed).contains i = true)
    (hQ : ∀ c a w, Q (.panic c) (a.put d undef) w → Q (.panic c) a w) (hw : Region.wanted oi (yielded ops a.tmps) = false) (hS : S w)
    (h : wpAnyH P md ops Q S fuel (listed.setIfInBounds i true) (a.put d undef) w) : wpAnyH P md ops Q S (fuel + 1) listed a w := by
  subst hd
  exact wpAnyH_take hi hs hf hr hQ (Or.inr ⟨hw, rfl⟩) hS h
/-- The one operation that may come up now. -/
theorem take_one (i : Nat) {o : Oper} {fuel : Nat} {listed : Array Bool} {a : Act} {w : World} (hr : Region.ready md ops listed = [i]) (ho : ops[i]? = some o)
    (h : ∀ K' : Act → World → Prop, Shut (∀ a w, S w → (S w → wpAnyH P md ops Q S fuel (listed.setIfInBounds i true) a w) → K' a w) → if Region.wanted o (yielded ops a.tmps) = true then Oper.wp P o a w K' Q else K' (a.put o.dst undef) w) :
    wpAnyH P md ops Q S (fuel + 1) listed a w :=
  wpAnyH_ready hr (by simp) (AllReadyH.cons ho h AllReadyH.nil)
end
section
variable {P : Program} {ops : Array Oper} {Q : Exit → Act → World → Prop} {md : Region.Mode} {S : World → Prop}
theorem mvR (i : Nat) (d : Option Tmp) {oi : Oper} {v : Value} {fuel : Nat} {listed L : Array Bool} {a A : Act} {w : World} (hS : S w) (h : wpAnyH P md ops Q S fuel L A w) (hi : ops[i]? = some oi := by rfl) (hd : oi.dst = d := by rfl)
    (hs : Region.noSelect ops = true := by kernel_rfl) (hf : Region.free md ops listed i = true := by kernel_rfl) (hr : (Region.ready md ops listed).contains i = true := by kernel_rfl) (hw : Region.wanted oi (yielded ops a.tmps) = true := by rfl)
    (hy : ∀ w, S w → (execOp a.eval oi).run P w = .ok (.value v) w := by (intro w hSw; (try dsimp only at hSw); go_simp <;> with_reducible rfl)) (hL : listed.setIfInBounds i true = L := by first | (simp only [List.setIfInBounds_toArray, List.set_cons_zero, List.set_cons_succ] <;> rfl) | rfl) (hA : a.put d v = A := by simp only [Act.put, List.setIfInBounds_toArray, List.set_cons_zero, List.set_cons_succ] <;> rfl) (hQ : ∀ c a w, Q (.panic c) (a.put d v) w → Q (.panic c) a w := by exact fun _ _ _ h => h) : wpAnyH P md ops Q S (fuel + 1) listed a w := by
  subst hL hA
  exact take_run i d hi hd hs hf hr hQ hw hy hS h
theorem mvS (i : Nat) (d : Option Tmp) {oi : Oper} {fuel : Nat} {listed L : Array Bool} {a A : Act} {w : World} (hS : S w) (h : wpAnyH P md ops Q S fuel L A w) (hi : ops[i]? = some oi := by rfl) (hd : oi.dst = d := by rfl)
    (hs : Region.noSelect ops = true := by kernel_rfl) (hf : Region.free md ops listed i = true := by kernel_rfl) (hr : (Region.ready md ops listed).contains i = true := by kernel_rfl) (hw : Region.wanted oi (yielded ops a.tmps) = false := by rfl)
    (hL : listed.setIfInBounds i true = L := by first | (simp only [List.setIfInBounds_toArray, List.set_cons_zero, List.set_cons_succ] <;> rfl) | rfl) (hA : a.put d undef = A := by simp only [Act.put, List.setIfInBounds_toArray, List.set_cons_zero, List.set_cons_succ] <;> rfl) (hQ : ∀ c a w, Q (.panic c) (a.put d undef) w → Q (.panic c) a w := by exact fun _ _ _ h => h) : wpAnyH P md ops Q S (fuel + 1) listed a w := by
  subst hL hA
  exact take_skip i d hi hd hs hf hr hQ hw hS h
theorem mvR0 (i : Nat) (d : Option Tmp) {oi : Oper} {v : Value} {fuel : Nat} {listed L : Array Bool} {a A : Act} {w : World} (hS : S w) (h : wpAnyH P md ops Q S fuel L A w) (hi : ops[i]? = some oi := by rfl) (hd : oi.dst = d := by rfl)
    (hs : Region.noSelect ops = true := by kernel_rfl) (hf : Region.free md ops listed i = true := by kernel_rfl) (hr : (Region.ready md ops listed).contains i = true := by kernel_rfl) (hw : Region.wanted oi (yielded ops a.tmps) = true := by rfl)
    (hy : ∀ w, S w → (execOp a.eval oi).run P w = .ok (.value v) w := by (intro w hSw; (try dsimp only at hSw); go_simp <;> with_reducible rfl)) (hL : listed.setIfInBounds i true = L := by first | (simp only [List.setIfInBounds_toArray, List.set_cons_zero, List.set_cons_succ] <;> rfl) | rfl) (hA : a.put d v = A := by simp only [Act.put, List.setIfInBounds_toArray, List.set_cons_zero] <;> rfl) (hQ : ∀ c a w, Q (.panic c) (a.put d v) w → Q (.panic c) a w := by exact fun _ _ _ h => h) : wpAnyH P md ops Q S (fuel + 1) listed a w := by
  subst hL hA
  exact take_run i d hi hd hs hf hr hQ hw hy hS h
end
end Go.Proofs.YtnaggcdhimcilaaGreat
/- Contracts of the small functions on tags (plain integers and struct values), over the translation of this seat: no condition on the arguments. -/
namespace Go.Proofs.YtnaggcdhimcilaaGreat
open Go.RowKit

/-- Whether a tag is valid: the zero tag, or a time and a place within bounds. -/
def okB (t p : Int) : Bool := decide (t = 0 ∧ p = 0 ∨ 1 ≤ t ∧ t ≤ 999 ∧ 0 ≤ p ∧ p ≤ 2)
/-- Whether the first tag is earlier. -/
def lessB (t p t' p' : Int) : Bool := decide (t < t' ∨ t = t' ∧ p < p')

theorem ret_bool {a b : Bool} (h : a = b) : Ending.returned (.bool a) = .returned (.bool b) := by rw [h]
theorem ret_int {k : IntKind} {a b : Int} (h : a = b) : Ending.returned (.int k a) = .returned (.int k b) := by rw [h]

theorem okB_i {t p : Int} (h : okB t p = true) : t = 0 ∧ p = 0 ∨ 1 ≤ t ∧ t ≤ 999 ∧ 0 ≤ p ∧ p ≤ 2 := of_decide_eq_true h
set_option maxHeartbeats 400000 in
theorem l1In_any (n lo hi : Int) (w : World) :
    Calls Tryz.prog 53 #[.int .i64 n, .int .i64 lo, .int .i64 hi] w fun e w' => e = .returned (.bool (decide (lo ≤ n ∧ n ≤ hi))) ∧ w = w' := by
  by_cases h1 : lo ≤ n
  · by_cases h2 : n ≤ hi
    · go_enter Tryz.func53, Tryz.ntmps53
      go_wp2
      go_ret
      exact ⟨ret_bool (by simp; omega), rfl⟩
    · go_enter Tryz.func53, Tryz.ntmps53
      go_wp2
      go_ret
      exact ⟨ret_bool (by simp; omega), rfl⟩
  · go_enter Tryz.func53, Tryz.ntmps53
    go_wp2
    go_ret
    exact ⟨ret_bool (by simp; omega), rfl⟩

set_option maxHeartbeats 400000 in
theorem toTag_any (t p : Int) (w : World) :
    Calls Tryz.prog 100 #[.agg #[.int .i64 t, .int .i64 p]] w fun e w' => e = .returned (.agg #[.int .i64 t, .int .i64 p]) ∧ Below w.heap.size w w' := by
  go_enter Tryz.func100, Tryz.ntmps100
  go_wp2
  refine bodyPost_ret (v := .agg #[.int .i64 t, .int .i64 p]) (by simp [results, Tryz.results100, go_sem]) rfl ⟨rfl, ?_⟩
  exact (((Below.refl _ _).alloc (Nat.le_refl _) _).alloc (by simp) _).alloc (by simp; omega) _

set_option maxHeartbeats 400000 in
theorem isNaN_any (a : Int) (w : World) :
    Calls Tryz.prog 169 #[.int .i64 a] w fun e w' => e = .returned (.bool false) ∧ w = w' := by
  have h : (a != a) = false := by simp
  go_enter Tryz.func169, Tryz.ntmps169
  go_wp2
  go_ret
  exact ⟨rfl, rfl⟩

/-- How two numbers compare: less, alike, more. -/
def cmpI (a b : Int) : Int := if a < b then -1 else if b < a then 1 else 0
set_option maxHeartbeats 1000000 in
theorem cmpInt_any (a b : Int) (w : World) :
    Calls Tryz.prog 150 #[.int .i64 a, .int .i64 b] w fun e w' => e = .returned (.int .i64 (cmpI a b)) ∧ w = w' := by
  have H : Hid (cmpI a b = if a < b then -1 else if b < a then 1 else 0) := rfl
  go_enter Tryz.func150, Tryz.ntmps150
  go_wp2_with (go_at_call 169; refine (isNaN_any _ _).mono ?_; rintro e w' ⟨rfl, rfl⟩)
  all_goals
    go_ret
    refine ⟨ret_int ?_, rfl⟩
    rw [H.out]
    first | (rw [if_pos (by omega)]) | (rw [if_neg (by omega), if_pos (by omega)]) | (rw [if_neg (by omega), if_neg (by omega)])

/-- The first number that is not zero. -/
def orI (a b : Int) : Int := if a = 0 then b else a
theorem orI_z {a b : Int} (h : a = 0) : orI a b = b := if_pos h
theorem orI_n {a b : Int} (h : ¬ a = 0) : orI a b = a := if_neg h
/-- How far a look at two numbers has come. -/
def OrAt (a b k : Int) : Prop := k = 0 ∨ k = 1 ∧ a = 0 ∨ k = 2 ∧ a = 0 ∧ b = 0
set_option maxRecDepth 100000 in
set_option maxHeartbeats 1000000 in
theorem cmpOr_two (g c : Nat) (a b : Int) (w : World) (h0 : w.cell? ⟨g, 0, none⟩ = some (.int .i64 a)) (h1 : w.cell? ⟨g, 1, none⟩ = some (.int .i64 b)) :
    Calls Tryz.prog 149 #[.slice (some ⟨g, 0, none⟩) 2 c] w fun e w' => e = .returned (.int .i64 (orI a b)) ∧ w = w' := by
  go_enter Tryz.func149, Tryz.ntmps149
  go_wp2
  go_loop [8] (fun i => ∃ k : Int, i = .int .i64 k ∧ OrAt a b k) (fun i => 2 - (intOf i).toNat)
  case atStart => exact ⟨0, rfl, .inl rfl⟩
  case round =>
    obtain ⟨k, rfl, hk⟩ := hrel
    rcases hk with rfl | ⟨rfl, ha⟩ | ⟨rfl, ha, hb⟩
    · by_cases ha : a = 0
      · have hn : (a != 0) = false := by simpa using ha
        have HA := hide ha
        clear ha
        go_wp2
        exact ⟨⟨1, rfl, .inr (.inl ⟨rfl, HA.out⟩)⟩, by simp [intOf]⟩
      · have hn : (a != 0) = true := by simpa using ha
        have HA := hide ha
        clear ha
        go_wp2
        go_ret
        exact ⟨ret_int (orI_n HA.out).symm, rfl⟩
    · have HA := hide ha
      clear ha
      by_cases hb : b = 0
      · have hn : (b != 0) = false := by simpa using hb
        have HB := hide hb
        clear hb
        go_wp2
        exact ⟨⟨2, rfl, .inr (.inr ⟨rfl, HA.out, HB.out⟩)⟩, by simp [intOf]⟩
      · have hn : (b != 0) = true := by simpa using hb
        clear hb
        go_wp2
        go_ret
        exact ⟨ret_int (orI_z HA.out).symm, rfl⟩
    · have HA := hide ha
      have HB := hide hb
      clear ha hb
      go_wp2
      go_ret
      exact ⟨ret_int (by rw [orI_z HA.out, HB.out]), rfl⟩

/-- How two tags compare. -/
def cmpT (t p t' p' : Int) : Int := orI (cmpI t t') (cmpI p p')
theorem cmpT_less (t p t' p' : Int) : decide (cmpT t p t' p' < 0) = lessB t p t' p' := by
  unfold cmpT orI cmpI lessB
  rw [Bool.eq_iff_iff]
  simp only [decide_eq_true_eq]
  repeat' split
  all_goals omega

set_option maxRecDepth 100000 in
set_option maxHeartbeats 2000000 in
theorem compare_any (t p t' p' : Int) (w : World) :
    Calls Tryz.prog 146 #[.agg #[.int .i64 t, .int .i64 p], .agg #[.int .i64 t', .int .i64 p']] w fun e w' => e = .returned (.int .i64 (cmpT t p t' p')) ∧ Below w.heap.size w w' := by
  have S0 := ((Inv.start w).box 91 #[.int .i64 t, .int .i64 p]).box 91 #[.int .i64 t', .int .i64 p']
  simp only [World.size_alloc] at S0
  go_enter Tryz.func146, Tryz.ntmps146
  go_wp2_with fail
  generalize (w.alloc (.cells #[.int .i64 t, .int .i64 p] 91)).alloc (.cells #[.int .i64 t', .int .i64 p'] 91) = W at S0 ⊢
  refine wp_region_noPanic ?_
  refine wp_region_held_drew (S := (fun w' => w'.cell? ⟨w.heap.size, 0, none⟩ = some (.int .i64 t) ∧ w'.cell? ⟨w.heap.size, 1, none⟩ = some (.int .i64 p) ∧ w'.cell? ⟨w.heap.size + 1, 0, none⟩ = some (.int .i64 t') ∧ w'.cell? ⟨w.heap.size + 1, 1, none⟩ = some (.int .i64 p') ∧ Inv w (w.heap.size + 1 + 1) [(w.heap.size + 1, 91, #[.int .i64 t', .int .i64 p']), (w.heap.size, 91, #[.int .i64 t, .int .i64 p])] w')) (by kernel_rfl) (by exact ⟨(S0.nth 1 rfl).at 0, (S0.nth 1 rfl).at 1, (S0.nth 0 rfl).at 0, (S0.nth 0 rfl).at 1, S0.drew⟩) (fun hHeld => ?_)
  refine mvR 0 (some 5) hHeld ?_
  refine mvR 1 (some 6) hHeld ?_
  refine mvR 2 (some 7) hHeld ?_
  refine mvR 3 (some 8) hHeld ?_
  refine mvR 5 (some 10) hHeld ?_
  refine mvR 6 (some 11) hHeld ?_
  refine mvR 7 (some 12) hHeld ?_
  refine mvR 8 (some 13) hHeld ?_
  refine take_one 4 (by kernel_rfl) rfl (fun K hK => ?_)
  go_simp
  (refine (cmpInt_any _ _ _).mono ?_; rintro e w1 ⟨rfl, rfl⟩)
  try go_wp2_with fail
  refine hK.out _ _ (by exact hHeld) (fun hHeld => ?_)
  clear hK K
  refine take_one 9 (by kernel_rfl) rfl (fun K hK => ?_)
  go_simp
  (refine (cmpInt_any _ _ _).mono ?_; rintro e w1 ⟨rfl, rfl⟩)
  try go_wp2_with fail
  refine hK.out _ _ (by exact hHeld) (fun hHeld => ?_)
  clear hK K
  refine take_one 10 (by kernel_rfl) rfl (fun K hK => ?_)
  go_simp
  refine hK.out _ _ (by exact ⟨((hHeld.2.2.2.2.alloc _).nth 1 rfl).at 0, ((hHeld.2.2.2.2.alloc _).nth 1 rfl).at 1, ((hHeld.2.2.2.2.alloc _).nth 0 rfl).at 0, ((hHeld.2.2.2.2.alloc _).nth 0 rfl).at 1, hHeld.2.2.2.2.alloc _⟩) (fun hHeld => ?_)
  clear hK K
  refine take_one 11 (by kernel_rfl) rfl (fun K hK => ?_)
  go_simp
  (refine (cmpOr_two _ _ (cmpI t t') (cmpI p p') _ (Blk.made _ _ _).drew.two.1 (Blk.made _ _ _).drew.two.2.1).mono ?_; rintro e w1 ⟨rfl, rfl⟩)
  try go_wp2_with fail
  refine hK.out _ _ (by exact hHeld) (fun hHeld => ?_)
  clear hK K
  refine mvR 12 (some 4) hHeld ?_
  refine wpAnyH_done (by kernel_rfl) ?_ _
  refine NoPanic.normal ?_
  have L := hHeld.2.2.2.2.below
  clear hHeld
  go_wp2
  go_ret
  exact ⟨rfl, L⟩

set_option maxHeartbeats 400000 in
theorem less_any (t p t' p' : Int) (w : World) :
    Calls Tryz.prog 118 #[.agg #[.int .i64 t, .int .i64 p], .agg #[.int .i64 t', .int .i64 p']] w fun e w' => e = .returned (.bool (lessB t p t' p')) ∧ Below w.heap.size w w' := by
  have S0 := ((Inv.start w).box 91 #[.int .i64 t, .int .i64 p]).box 91 #[.int .i64 t', .int .i64 p']
  have H := hide (cmpT_less t p t' p')
  go_enter Tryz.func118, Tryz.ntmps118
  go_wp2_with fail
  refine (compare_any _ _ _ _ _).mono ?_
  rintro e w1 ⟨rfl, hb⟩
  have hl := (S0.on hb).below
  clear S0 hb
  generalize cmpT t p t' p' = x at H ⊢
  go_wp2
  go_ret
  exact ⟨ret_bool H.out, hl⟩

set_option maxHeartbeats 400000 in
theorem l1Less_any (t p t' p' : Int) (w : World) :
    Calls Tryz.prog 97 #[.agg #[.int .i64 t, .int .i64 p], .agg #[.int .i64 t', .int .i64 p']] w fun e w' => e = .returned (.bool (lessB t p t' p')) ∧ Below w.heap.size w w' := by
  have hl : lessB t p t' p' = (decide (t < t') || (decide (t = t') && decide (p < p'))) := by unfold lessB; simp
  have H : Hid (lessB t p t' p' = (decide (t < t') || (decide (t = t') && decide (p < p')))) := hl
  clear hl
  by_cases h1 : t < t'
  · go_enter Tryz.func97, Tryz.ntmps97
    go_wp2
    go_ret
    exact ⟨ret_bool (by rw [H.out]; simp [h1]), ((Below.refl _ _).alloc (Nat.le_refl _) _).alloc (by simp) _⟩
  · by_cases h2 : t = t'
    · subst h2
      go_enter Tryz.func97, Tryz.ntmps97
      go_wp2
      go_ret
      exact ⟨ret_bool (by rw [H.out]; simp), ((Below.refl _ _).alloc (Nat.le_refl _) _).alloc (by simp) _⟩
    · have h3 : (t == t') = false := by simpa using h2
      go_enter Tryz.func97, Tryz.ntmps97
      go_wp2
      go_ret
      exact ⟨ret_bool (by rw [H.out]; simp; omega), ((Below.refl _ _).alloc (Nat.le_refl _) _).alloc (by simp) _⟩

set_option maxHeartbeats 400000 in
theorem implTagOk_any (t p : Int) (w : World) :
    Calls Tryz.prog 153 #[.agg #[.int .i64 t, .int .i64 p]] w fun e w' => e = .returned (.bool (okB t p)) ∧ Below w.heap.size w w' := by
  go_enter Tryz.func153, Tryz.ntmps153
  go_wp2
  all_goals
    go_ret
    refine ⟨ret_bool ?_, (Below.refl _ _).alloc (Nat.le_refl _) _⟩
    symm
    unfold okB
    rw [Bool.eq_iff_iff]
    simp
    try omega

set_option maxHeartbeats 400000 in
theorem l1TagOk_any (t p : Int) (w : World) :
    Calls Tryz.prog 124 #[.agg #[.int .i64 t, .int .i64 p]] w fun e w' => e = .returned (.bool (okB t p)) ∧ Below w.heap.size w w' := by
  go_enter Tryz.func124, Tryz.ntmps124
  go_wp2
  all_goals
    go_ret
    refine ⟨ret_bool ?_, (Below.refl _ _).alloc (Nat.le_refl _) _⟩
    symm
    unfold okB
    rw [Bool.eq_iff_iff]
    simp
    try omega

/-- The later one of two tags: its time, its place. -/
def mxT (t p t' p' : Int) : Int := if lessB t p t' p' = true then t' else t
def mxP (t p t' p' : Int) : Int := if lessB t p t' p' = true then p' else p

/-- Whether two tags are the same. -/
def eqB (t p t' p' : Int) : Bool := decide (t = t' ∧ p = p')
theorem eqB_same (t p : Int) : eqB t p t p = true := decide_eq_true ⟨rfl, rfl⟩

set_option maxHeartbeats 400000 in
theorem eqTag_any (t p t' p' : Int) (w : World) :
    Calls Tryz.prog 116 #[.agg #[.int .i64 t, .int .i64 p], .agg #[.int .i64 t', .int .i64 p']] w fun e w' => e = .returned (.bool (eqB t p t' p')) ∧ Below w.heap.size w w' := by
  by_cases h : t = t'
  · subst h
    by_cases h' : p = p'
    · subst h'
      go_enter Tryz.func116, Tryz.ntmps116
      go_wp2
      go_ret
      exact ⟨ret_bool (by simp [eqB]), ((Below.refl _ _).alloc (Nat.le_refl _) _).alloc (by simp) _⟩
    · have hb : (p != p') = true := by simpa using h'
      have hr : Hid (eqB t p t p' = false) := by unfold Hid eqB; simpa using h'
      clear h'
      go_enter Tryz.func116, Tryz.ntmps116
      go_wp2
      go_ret
      exact ⟨ret_bool hr.out.symm, ((Below.refl _ _).alloc (Nat.le_refl _) _).alloc (by simp) _⟩
  · have hb : (t != t') = true := by simpa using h
    have hr : Hid (eqB t p t' p' = false) := by unfold Hid eqB; simp [h]
    clear h
    go_enter Tryz.func116, Tryz.ntmps116
    go_wp2
    go_ret
    exact ⟨ret_bool hr.out.symm, ((Below.refl _ _).alloc (Nat.le_refl _) _).alloc (by simp) _⟩
end Go.Proofs.YtnaggcdhimcilaaGreat
/- Contracts of the laws' small functions on slices of tags: their size, their copy, whether two are the same. Condition: at most 1048576 tags where memory is made. -/
namespace Go.Proofs.YtnaggcdhimcilaaGreat
open Go.RowKit Go.Joins

/-- The two cells of a tag at place i of a row of cells. -/
def TagAt (cur : Array Value) (i : Nat) (x : Int × Int) : Prop := cur[i * 2]? = some (.int .i64 x.1) ∧ cur[i * 2 + 1]? = some (.int .i64 x.2)

theorem tagAt_put {cur : Array Value} {k : Nat} {x : Int × Int} (h : k * 2 + 1 < cur.size) : TagAt ((cur.setIfInBounds (k * 2) (.int .i64 x.1)).setIfInBounds (k * 2 + 1) (.int .i64 x.2)) k x := by
  refine ⟨?_, ?_⟩
  · rw [Array.getElem?_setIfInBounds_ne (by omega), Array.getElem?_setIfInBounds_self_of_lt (by omega)]
  · rw [Array.getElem?_setIfInBounds_self_of_lt (by simp; omega)]
theorem tagAt_other {cur : Array Value} {j k : Nat} {x : Int × Int} {a b : Value} (hj : j ≠ k) (h : TagAt cur j x) : TagAt ((cur.setIfInBounds (k * 2) a).setIfInBounds (k * 2 + 1) b) j x := by
  refine ⟨?_, ?_⟩
  · rw [Array.getElem?_setIfInBounds_ne (by omega), Array.getElem?_setIfInBounds_ne (by omega)]
    exact h.1
  · rw [Array.getElem?_setIfInBounds_ne (by omega), Array.getElem?_setIfInBounds_ne (by omega)]
    exact h.2
/-- One tag more is in its place. -/
theorem tagAt_step {cur : Array Value} {k : Nat} {ts : List (Int × Int)} {y : Int × Int} (h : k * 2 + 1 < cur.size) (hy : ts[k]? = some y) (hc : ∀ j x, j < k → ts[j]? = some x → TagAt cur j x) :
    ∀ j x, j < k + 1 → ts[j]? = some x → TagAt ((cur.setIfInBounds (k * 2) (.int .i64 y.1)).setIfInBounds (k * 2 + 1) (.int .i64 y.2)) j x := by
  intro j x hj hx
  by_cases e : j = k
  · subst e
    rw [hy] at hx
    injection hx with hx
    subst hx
    exact tagAt_put h
  · exact tagAt_other e (hc j x (by omega) hx)

/-- A slice that reads as these tags, in old memory (below block B). -/
def Tg (w : World) (B : Nat) (a : Option Addr) (ts : List (Int × Int)) : Prop :=
  ts = [] ∨ ∃ b off : Nat, a = some ⟨b, off, none⟩ ∧ b < B ∧ ∀ i x, ts[i]? = some x → w.cell? ⟨b, off + i * 2, none⟩ = some (.int .i64 x.1) ∧ w.cell? ⟨b, off + i * 2 + 1, none⟩ = some (.int .i64 x.2)
theorem Tg.keep {w w' : World} {B : Nat} {a : Option Addr} {ts : List (Int × Int)} (h : Tg w B a ts) (hk : ∀ p : Addr, p.block < B → w'.cell? p = w.cell? p) : Tg w' B a ts := by
  rcases h with h | ⟨b, off, ha, hb, hx⟩
  · exact .inl h
  · exact .inr ⟨b, off, ha, hb, fun i x hi => ⟨(hk ⟨b, off + i * 2, none⟩ hb).trans (hx i x hi).1, (hk ⟨b, off + i * 2 + 1, none⟩ hb).trans (hx i x hi).2⟩⟩
theorem Tg.on {w w' : World} {B : Nat} {a : Option Addr} {ts : List (Int × Int)} (h : Tg w B a ts) (hb : Below B w w') : Tg w' B a ts := h.keep fun _ hp => hb.cell hp
theorem Tg.up {w : World} {B B' : Nat} {a : Option Addr} {ts : List (Int × Int)} (h : Tg w B a ts) (hB : B ≤ B') : Tg w B' a ts := by
  rcases h with h | ⟨b, off, ha, hb, hx⟩
  · exact .inl h
  · exact .inr ⟨b, off, ha, by omega, hx⟩
theorem Tg.of {w : World} {B g : Nat} {T : TypeId} {cur : Array Value} {ts : List (Int × Int)} (hb : Blk w g T cur) (hg : g < B) (h : ∀ i x, ts[i]? = some x → TagAt cur i x) : Tg w B (some ⟨g, 0, none⟩) ts :=
  .inr ⟨g, 0, rfl, hg, fun i x hi => by
    have := h i x hi
    exact ⟨by rw [Nat.zero_add, hb.at]; exact this.1, by rw [Nat.zero_add, hb.at]; exact this.2⟩⟩

set_option maxHeartbeats 400000 in
theorem szTagS_fits (a : Option Addr) (n c : Nat) (left : Int) (w : World) (h0 : left ≤ 1048576) (hn : (n : Int) ≤ left) :
    Calls Tryz.prog 122 #[.slice a n c, .int .i64 left] w fun e w' => e = .returned (.int .i64 (left - n)) ∧ w = w' := by
  have h1 : ¬ (left - (n : Int) < 0) := by omega
  go_enter Tryz.func122, Tryz.ntmps122
  go_wp2
  go_ret
  exact ⟨rfl, rfl⟩
set_option maxHeartbeats 400000 in
theorem szTagS_not (a : Option Addr) (n c : Nat) (left : Int) (w : World) (h0 : left ≤ 1048576) (h00 : 0 ≤ left) (hm : n ≤ 9223372036854775807) (hn : left < (n : Int)) :
    Calls Tryz.prog 122 #[.slice a n c, .int .i64 left] w fun e w' => e = .returned (.int .i64 (-1)) ∧ w = w' := by
  have h1 : left - (n : Int) < 0 := by omega
  go_enter Tryz.func122, Tryz.ntmps122
  go_wp2
  go_ret
  exact ⟨rfl, rfl⟩
set_option maxHeartbeats 400000 in
theorem szPast_fits (a : Option Addr) (n c : Nat) (left : Int) (w : World) (h0 : left ≤ 1048576) (hn : (n : Int) ≤ left) :
    Calls Tryz.prog 91 #[.agg #[.slice a n c], .int .i64 left] w fun e w' => e = .returned (.int .i64 (left - n)) ∧ Below w.heap.size w w' := by
  have h1 : ¬ (left - (n : Int) < 0) := by omega
  go_enter Tryz.func91, Tryz.ntmps91
  go_wp2_with fail
  refine (szTagS_fits a n c left _ h0 hn).mono ?_
  rintro e w1 ⟨rfl, rfl⟩
  go_wp2
  go_ret
  exact ⟨rfl, (Below.refl _ _).alloc (Nat.le_refl _) _⟩
set_option maxHeartbeats 400000 in
theorem szPast_not (a : Option Addr) (n c : Nat) (left : Int) (w : World) (h0 : left ≤ 1048576) (h00 : 0 ≤ left) (hm : n ≤ 9223372036854775807) (hn : left < (n : Int)) :
    Calls Tryz.prog 91 #[.agg #[.slice a n c], .int .i64 left] w fun e w' => e = .returned (.int .i64 (-1)) ∧ Below w.heap.size w w' := by
  go_enter Tryz.func91, Tryz.ntmps91
  go_wp2_with fail
  refine (szTagS_not a n c left _ h0 h00 hm hn).mono ?_
  rintro e w1 ⟨rfl, rfl⟩
  go_wp2
  go_ret
  exact ⟨rfl, (Below.refl _ _).alloc (Nat.le_refl _) _⟩

theorem tag_info : (Tryz.prog.info? 91).map (fun i => (i.zero, i.size, i.bytes)) = some (some (.agg #[.int .i64 0, .int .i64 0]), 2, 16) := by kernel_rfl

/-- What toTagS leaves: the tags in a new block of its own. -/
def CopiedS (w : World) (ts : List (Int × Int)) (e : Ending) (w' : World) : Prop :=
  ∃ (g : Nat) (cur : Array Value), e = .returned (.slice (some ⟨g, 0, none⟩) ts.length ts.length) ∧ w.heap.size ≤ g ∧ Blk w' g 91 cur ∧ cur.size = ts.length * 2 ∧ (∀ i x, ts[i]? = some x → TagAt cur i x) ∧ Below w.heap.size w w'

set_option maxRecDepth 100000 in
set_option maxHeartbeats 1000000 in
theorem toTagS_any (a : Option Addr) (c : Nat) (ts : List (Int × Int)) (w : World) (hn : ts.length ≤ 1048576) (ht : Tg w w.heap.size a ts) :
    Calls Tryz.prog 129 #[.slice a ts.length c] w (CopiedS w ts) := by
  obtain ⟨i0, hi0, hz0, hz1, hz2⟩ := info_parts tag_info
  have hmk : ∀ W : World, (Instr.makeSlice 92 (.int .i64 (ts.length : Int)) (.int .i64 (ts.length : Int))).run Tryz.prog W = .ok (.slice (some ⟨W.heap.size, 0, none⟩) ts.length ts.length) (W.alloc (.cells (madeCells (Value.agg #[.int .i64 0, .int .i64 0]).cells (ts.length * 2)) 91)) := by
    intro W
    have hr := run_make (P := Tryz.prog) W 92 91 i0 _ Tryz.underlying92 hi0 hz0 .i64 .i64 (ts.length : Int) (ts.length : Int) (by omega) (by omega) (by rw [hz2]; omega) (by omega)
    rw [hz1] at hr
    simpa using hr
  generalize hn' : ts.length = n at *
  have HN := hide hn'
  clear hn'
  go_enter Tryz.func129, Tryz.ntmps129
  go_wp2
  clear hmk hi0 hz0 hz1 hz2
  have B0 := Blk.made w 91 (madeCells #[.int .i64 0, .int .i64 0] (n * 2))
  have L0 := below_alloc1 w (.cells (madeCells #[.int .i64 0, .int .i64 0] (n * 2)) 91)
  go_loopw [4] (fun i wr => ∃ (k : Nat) (cur : Array Value), k ≤ n ∧ i = .int .i64 (k : Int) ∧ Blk wr w.heap.size 91 cur ∧ cur.size = n * 2 ∧ (∀ j x, j < k → ts[j]? = some x → TagAt cur j x) ∧ Below w.heap.size w wr) (fun i _ => n - (intOf i).toNat)
  case atStart => exact ⟨0, _, Nat.zero_le _, rfl, B0, size_madeCells _ _, fun j x hj => absurd hj (by omega), L0⟩
  case round =>
    obtain ⟨k, cur, hk, rfl, hB, hsz, hcur, hL⟩ := hrel
    by_cases hlt : k < n
    · rcases ht with h0 | ⟨b, off, rfl, hb, hx⟩
      · have := HN.out; subst h0; simp at this; omega
      · have hkl : k < ts.length := by have := HN.out; omega
        obtain ⟨hc0, hc1⟩ := hx k _ (List.getElem?_eq_getElem hkl)
        have c0 := (hL.cell (p := ⟨b, off + k * 2, none⟩) hb).trans hc0
        have c1 := (hL.cell (p := ⟨b, off + k * 2 + 1, none⟩) hb).trans hc1
        generalize hy : ts[k] = y at c0 c1
        have HY := hide hy
        clear hc0 hc1 hy
        go_wp2_with fail
        refine (toTag_any _ _ _).mono ?_
        rintro e w1 ⟨rfl, hb1⟩
        have B1 := hB.on hb1
        have hs0 : k * 2 < cur.size := by omega
        have hs1 : k * 2 + 1 < cur.size := by omega
        have d0 : w1.cell? ⟨w.heap.size, k * 2, none⟩ = some cur[k * 2] := by rw [B1.at]; exact Array.getElem?_eq_getElem hs0
        have d1 : w1.cell? ⟨w.heap.size, k * 2 + 1, none⟩ = some cur[k * 2 + 1] := by rw [B1.at]; exact Array.getElem?_eq_getElem hs1
        have f0 := B1.loose (k * 2)
        have f1 := B1.loose (k * 2 + 1)
        have HC := hide (tagAt_step hs1 ((List.getElem?_eq_getElem hkl).trans (congrArg some HY.out)) hcur)
        clear hcur
        go_wp2
        exact ⟨⟨k + 1, _, by omega, by go_num, (B1.put _ _).put _ _, by simp [hsz], HC.out, ((hL.trans (hb1.mono hL.size)).setCell (Nat.le_refl _) _).setCell (Nat.le_refl _) _⟩, by simp [intOf]; omega⟩
    · have hkn : k = n := by omega
      subst hkn
      clear hlt
      go_wp2
      go_ret
      have e := HN.out
      exact ⟨_, cur, by rw [e]; rfl, Nat.le_refl _, hB, by rw [e]; exact hsz, fun i x hx => hcur i x (by have := (List.getElem?_eq_some_iff.1 hx).1; omega) hx, hL⟩

/-- What toPast leaves. -/
def CopiedP (w : World) (ts : List (Int × Int)) (e : Ending) (w' : World) : Prop :=
  ∃ (g : Nat) (cur : Array Value), e = .returned (.agg #[.slice (some ⟨g, 0, none⟩) ts.length ts.length]) ∧ w.heap.size ≤ g ∧ Blk w' g 91 cur ∧ cur.size = ts.length * 2 ∧ (∀ i x, ts[i]? = some x → TagAt cur i x) ∧ Below w.heap.size w w'

set_option maxHeartbeats 1000000 in
theorem toPast_any (a : Option Addr) (c : Nat) (ts : List (Int × Int)) (w : World) (hn : ts.length ≤ 1048576) (ht : Tg w w.heap.size a ts) :
    Calls Tryz.prog 101 #[.agg #[.slice a ts.length c]] w (CopiedP w ts) := by
  have S0 := (((Inv.start w).box 81 #[.slice a ts.length c]).box 94 #[.slice none 0 0]).box 94 #[.slice none 0 0]
  simp only [World.size_alloc] at S0
  have T0 : Tg (((w.alloc (.cells #[.slice a ts.length c] 81)).alloc (.cells #[.slice none 0 0] 94)).alloc (.cells #[.slice none 0 0] 94)) w.heap.size a ts := ht.on S0.below
  go_enter Tryz.func101, Tryz.ntmps101
  go_wp2_with fail
  generalize (((w.alloc (.cells #[.slice a ts.length c] 81)).alloc (.cells #[.slice none 0 0] 94)).alloc (.cells #[.slice none 0 0] 94)) = W at S0 T0 ⊢
  refine (toTagS_any a c ts W hn (T0.up S0.base)).mono ?_
  rintro e w1 ⟨g, cur, rfl, hg, hB, hsz, hcur, hb1⟩
  have S1 := S0.on hb1
  have hr := S0.room
  have hl := S1.below
  obtain ⟨k0, f0⟩ := (S1.nth 0 rfl).one
  obtain ⟨k1, f1⟩ := (S1.nth 1 rfl).one
  have hW := S0.base
  have HC := hide hcur
  clear hcur S0 S1 T0 ht
  go_wp2
  refine bodyPost_ret (v := .agg #[.slice (some ⟨g, 0, none⟩) ts.length ts.length]) (by simp [results, Tryz.results101, go_sem, k1]) rfl ?_
  exact ⟨g, cur, rfl, by omega, (hB.aside (by simp; omega) _).aside (by simp; omega) _, hsz, HC.out, (hl.setCell (by simp; omega) _).setCell (by simp) _⟩

theorem take_eq_step {ts us : List (Int × Int)} {k : Nat} {x y : Int × Int} (hx : ts[k]? = some x) (hy : us[k]? = some y) (h : ts.take k = us.take k) (hxy : x = y) : ts.take (k + 1) = us.take (k + 1) := by
  rw [List.take_add_one, List.take_add_one, h, hx, hy, hxy]

set_option maxRecDepth 100000 in
set_option maxHeartbeats 1000000 in
theorem eqTagS_any (a a' : Option Addr) (c c' : Nat) (ts us : List (Int × Int)) (w : World) (hn : ts.length ≤ 1048576) (_hn' : us.length ≤ 1048576) (ht : Tg w w.heap.size a ts) (hu : Tg w w.heap.size a' us) :
    Calls Tryz.prog 145 #[.slice a ts.length c, .slice a' us.length c'] w fun e w' => e = .returned (.bool (decide (ts = us))) ∧ Below w.heap.size w w' := by
  by_cases hlen : ts.length = us.length
  · have hd : Hid (ts.take ts.length = us.take us.length ↔ ts = us) := by unfold Hid; rw [List.take_length, List.take_length]
    generalize hnn : ts.length = n at *
    rw [← hlen] at hd ⊢
    have HN := hide hnn
    have HL := hide hlen
    clear hnn hlen
    go_enter Tryz.func145, Tryz.ntmps145
    go_wp2
    go_loopw [5] (fun i wr => ∃ k : Nat, k ≤ n ∧ i = .int .i64 (k : Int) ∧ Hid (ts.take k = us.take k) ∧ Below w.heap.size w wr) (fun i _ => n - (intOf i).toNat)
    case atStart => exact ⟨0, Nat.zero_le _, rfl, by simp [Hid], Below.refl _ _⟩
    case round =>
      obtain ⟨k, hk, rfl, heq, hL⟩ := hrel
      by_cases hlt : k < n
      · rcases ht with h0 | ⟨b, off, rfl, hb, hx⟩
        · have := HN.out; subst h0; simp at this; omega
        · rcases hu with h0 | ⟨b', off', rfl, hb', hx'⟩
          · have := HL.out; subst h0; simp at this; omega
          · have hkl : k < ts.length := by have := HN.out; omega
            have hkl' : k < us.length := by have := HL.out; omega
            obtain ⟨hc0, hc1⟩ := hx k _ (List.getElem?_eq_getElem hkl)
            obtain ⟨hd0, hd1⟩ := hx' k _ (List.getElem?_eq_getElem hkl')
            have c0 := (hL.cell (p := ⟨b, off + k * 2, none⟩) hb).trans hc0
            have c1 := (hL.cell (p := ⟨b, off + k * 2 + 1, none⟩) hb).trans hc1
            have d0 := (hL.cell (p := ⟨b', off' + k * 2, none⟩) hb').trans hd0
            have d1 := (hL.cell (p := ⟨b', off' + k * 2 + 1, none⟩) hb').trans hd1
            have HX := hide (List.getElem?_eq_getElem hkl)
            have HY := hide (List.getElem?_eq_getElem hkl')
            generalize ts[k] = x at c0 c1 HX
            generalize us[k] = y at d0 d1 HY
            obtain ⟨x1, x2⟩ := x
            obtain ⟨y1, y2⟩ := y
            simp only at c0 c1 d0 d1
            clear hc0 hc1 hd0 hd1 hx hx'
            have i1 : (0 : Int) ≤ (k : Int) := by omega
            have i2 : (k : Int) < (n : Int) := by omega
            go_wp2_with fail
            refine wp_region_noPanic ?_
            refine wp_region_held_drew (S := (fun w' => w'.cell? ⟨b, off + k * 2, none⟩ = some (.int .i64 x1) ∧ w'.cell? ⟨b, off + k * 2 + 1, none⟩ = some (.int .i64 x2) ∧ w'.cell? ⟨b', off' + k * 2, none⟩ = some (.int .i64 y1) ∧ w'.cell? ⟨b', off' + k * 2 + 1, none⟩ = some (.int .i64 y2) ∧ Below w.heap.size w w')) (by kernel_rfl) (by exact ⟨c0, c1, d0, d1, hL.drew⟩) (fun hHeld => ?_)
            refine mvR 0 (some 17) hHeld ?_
            refine mvR 1 (some 18) hHeld ?_
            refine mvR 2 (some 19) hHeld ?_
            refine mvR 3 (some 20) hHeld ?_
            refine mvR 4 (some 21) hHeld ?_
            refine mvR 5 (some 22) hHeld ?_
            refine mvR 6 (some 23) hHeld ?_
            refine mvR 7 (some 24) hHeld ?_
            refine take_one 8 (by kernel_rfl) rfl (fun K hK => ?_)
            go_simp
            (refine (eqTag_any _ _ _ _ _).mono ?_; rintro e w1 ⟨rfl, hb1⟩)
            try go_wp2_with fail
            refine hK.out _ _ (by exact ⟨(hb1.cell (p := ⟨b, off + k * 2, none⟩) (Nat.lt_of_lt_of_le hb hHeld.2.2.2.2.size)).trans hHeld.1, (hb1.cell (p := ⟨b, off + k * 2 + 1, none⟩) (Nat.lt_of_lt_of_le hb hHeld.2.2.2.2.size)).trans hHeld.2.1, (hb1.cell (p := ⟨b', off' + k * 2, none⟩) (Nat.lt_of_lt_of_le hb' hHeld.2.2.2.2.size)).trans hHeld.2.2.1, (hb1.cell (p := ⟨b', off' + k * 2 + 1, none⟩) (Nat.lt_of_lt_of_le hb' hHeld.2.2.2.2.size)).trans hHeld.2.2.2.1, hHeld.2.2.2.2.trans (hb1.mono hHeld.2.2.2.2.size)⟩) (fun hHeld => ?_)
            clear hK K
            refine mvR 9 (some 26) hHeld ?_
            refine wpAnyH_done (by kernel_rfl) ?_ _
            refine NoPanic.normal ?_
            have hL2 := hHeld.2.2.2.2
            clear hHeld c0 c1 d0 d1 hL
            by_cases hxy : x1 = y1 ∧ x2 = y2
            · obtain ⟨rfl, rfl⟩ := hxy
              rw [eqB_same]
              have HS := hide (take_eq_step HX.out HY.out heq.out rfl)
              clear heq
              go_wp2
              exact ⟨⟨k + 1, by omega, by go_num, HS, hL2⟩, by simp [intOf]; omega⟩
            · have he : eqB x1 x2 y1 y2 = false := decide_eq_false hxy
              rw [he]
              have hf : Hid (decide (ts = us) = false) := decide_eq_false (fun e => hxy (by
                have h1 := HX.out
                have h2 := HY.out
                rw [e, h2] at h1
                injection h1 with h1
                injection h1 with h3 h4
                exact ⟨h3.symm, h4.symm⟩))
              clear hxy he
              go_wp2
              go_ret
              exact ⟨ret_bool hf.out.symm, hL2⟩
      · have hkn : k = n := by omega
        subst hkn
        clear hlt
        have hf : Hid (decide (ts = us) = true) := decide_eq_true (hd.out.1 heq.out)
        clear heq
        go_wp2
        go_ret
        exact ⟨ret_bool hf.out.symm, hL⟩
  · have hd : Hid (decide (ts = us) = false) := decide_eq_false (fun e => hlen (by rw [e]))
    have hne : ((ts.length : Int) != (us.length : Int)) = true := by simp; omega
    clear hlen
    go_enter Tryz.func145, Tryz.ntmps145
    go_wp2
    go_ret
    exact ⟨ret_bool hd.out.symm, Below.refl _ _⟩

set_option maxHeartbeats 1000000 in
theorem eqPast_any (a a' : Option Addr) (c c' : Nat) (ts us : List (Int × Int)) (w : World) (hn : ts.length ≤ 1048576) (hn' : us.length ≤ 1048576) (ht : Tg w w.heap.size a ts) (hu : Tg w w.heap.size a' us) :
    Calls Tryz.prog 117 #[.agg #[.slice a ts.length c], .agg #[.slice a' us.length c']] w fun e w' => e = .returned (.bool (decide (ts = us))) ∧ Below w.heap.size w w' := by
  have S0 := ((Inv.start w).box 94 #[.slice a ts.length c]).box 94 #[.slice a' us.length c']
  simp only [World.size_alloc] at S0
  have T0 := ht.on S0.below
  have U0 := hu.on S0.below
  go_enter Tryz.func117, Tryz.ntmps117
  go_wp2_with fail
  generalize (w.alloc (.cells #[.slice a ts.length c] 94)).alloc (.cells #[.slice a' us.length c'] 94) = W at S0 T0 U0 ⊢
  refine (eqTagS_any a a' c c' ts us W hn hn' (T0.up S0.base) (U0.up S0.base)).mono ?_
  rintro e w1 ⟨rfl, hb1⟩
  have hl := (S0.on hb1).below
  by_cases hd : ts = us
  · rw [decide_eq_true hd]
    have HD := hide (decide_eq_true hd)
    clear hd S0 T0 U0 ht hu
    go_wp2
    go_ret
    exact ⟨ret_bool HD.out.symm, hl⟩
  · rw [decide_eq_false hd]
    have HD := hide (decide_eq_false hd)
    clear hd S0 T0 U0 ht hu
    go_wp2
    go_ret
    exact ⟨ret_bool HD.out.symm, hl⟩

end Go.Proofs.YtnaggcdhimcilaaGreat
/- Contracts of the functions on vectors of tags: whether one is valid, in the program and in the model. Condition: at most 1048576 tags. -/
namespace Go.Proofs.YtnaggcdhimcilaaGreat
open Go.RowKit Go.Joins

/-- Whether these tags are a valid vector. -/
def pastB (ts : List (Int × Int)) : Bool := decide (ts.length = 4) && ts.all fun x => okB x.1 x.2
theorem pastB_len {ts : List (Int × Int)} (h : ¬ ts.length = 4) : pastB ts = false := by unfold pastB; simp [h]
theorem pastB_bad {ts : List (Int × Int)} {k : Nat} {x : Int × Int} (hx : ts[k]? = some x) (h : okB x.1 x.2 = false) : pastB ts = false := by
  unfold pastB
  have : (ts.all fun x => okB x.1 x.2) = false := by
    rw [List.all_eq_false]
    exact ⟨x, List.mem_of_getElem? hx, by simp [h]⟩
  simp [this]
theorem pastB_ok {ts : List (Int × Int)} (hl : ts.length = 4) (h : ∀ (k : Nat) (x : Int × Int), ts[k]? = some x → okB x.1 x.2 = true) : pastB ts = true := by
  unfold pastB
  have : (ts.all fun x => okB x.1 x.2) = true := by
    rw [List.all_eq_true]
    intro x hx
    obtain ⟨k, hk⟩ := List.getElem?_of_mem hx
    exact h k x hk
  simp [this, hl]

set_option maxRecDepth 100000 in
set_option maxHeartbeats 1000000 in
theorem l1PastOk_any (a : Option Addr) (c : Nat) (ts : List (Int × Int)) (w : World) (hn : ts.length ≤ 1048576) (ht : Tg w w.heap.size a ts) :
    Calls Tryz.prog 125 #[.agg #[.slice a ts.length c]] w fun e w' => e = .returned (.bool (pastB ts)) ∧ Below w.heap.size w w' := by
  have B0 := Blk.made w 94 #[.slice a ts.length c]
  have L0 := below_alloc1 w (.cells #[.slice a ts.length c] 94)
  generalize hnn : ts.length = n at *
  have HN := hide hnn
  clear hnn
  go_enter Tryz.func125, Tryz.ntmps125
  go_wp2
  go_loopw [3] (fun i wr => ∃ k : Nat, k ≤ n ∧ i = .int .i64 (k : Int) ∧ (∀ j x, j < k → ts[j]? = some x → okB x.1 x.2 = true) ∧ Blk wr w.heap.size 94 #[.slice a n c] ∧ Below w.heap.size w wr) (fun i _ => n - (intOf i).toNat)
  case atStart => exact ⟨0, Nat.zero_le _, rfl, fun j x hj => absurd hj (by omega), B0, L0⟩
  case round =>
    obtain ⟨k, hk, rfl, hall, hB, hL⟩ := hrel
    have hA := hide hall
    clear hall
    obtain ⟨q0, q1⟩ := hB.one
    by_cases hlt : k < n
    · rcases ht with h0 | ⟨b, off, rfl, hb, hx⟩
      · have := HN.out; subst h0; simp at this; omega
      · have hkl : k < ts.length := by have := HN.out; omega
        obtain ⟨hc0, hc1⟩ := hx k _ (List.getElem?_eq_getElem hkl)
        have c0 := (hL.cell (p := ⟨b, off + k * 2, none⟩) hb).trans hc0
        have c1 := (hL.cell (p := ⟨b, off + k * 2 + 1, none⟩) hb).trans hc1
        have HX := hide (List.getElem?_eq_getElem hkl)
        generalize ts[k] = x at c0 c1 HX
        obtain ⟨x1, x2⟩ := x
        simp only at c0 c1
        clear hc0 hc1 hx
        go_wp2_with fail
        refine (l1TagOk_any _ _ _).mono ?_
        rintro e w1 ⟨rfl, hb1⟩
        have hL1 := hL.trans (hb1.mono hL.size)
        have B1 := hB.on hb1
        cases hok : okB x1 x2
        · have hf := hide (pastB_bad HX.out hok)
          clear hok
          go_wp2
          go_ret
          exact ⟨ret_bool hf.out.symm, hL1⟩
        · have HA := hide (show ∀ j x, j < k + 1 → ts[j]? = some x → okB x.1 x.2 = true from fun j x hj hx => by
            by_cases e : j = k
            · subst e
              have h1 := HX.out
              rw [h1] at hx
              injection hx with hx
              subst hx
              exact hok
            · exact hA.out j x (by omega) hx)
          clear hok
          go_wp2
          exact ⟨⟨k + 1, by omega, by go_num, HA.out, B1, hL1⟩, by simp [intOf]; omega⟩
    · have hkn : k = n := by omega
      subst hkn
      clear hlt
      by_cases h4 : k = 4
      · have hf := hide (pastB_ok (HN.out.trans h4) (fun j x hx => hA.out j x (by have := (List.getElem?_eq_some_iff.1 hx).1; have := HN.out; omega) hx))
        subst h4
        go_wp2
        go_ret
        exact ⟨ret_bool hf.out.symm, hL⟩
      · have hf := hide (pastB_len (fun e => h4 (HN.out.symm.trans e)))
        have h4' : ((k : Int) == 4) = false := by simp; omega
        clear h4
        go_wp2
        go_ret
        exact ⟨ret_bool hf.out.symm, hL⟩

/-- The eight cells of four tags. -/
def cells4 (ts : List (Int × Int)) : Array Value := (ts.flatMap fun x => [Value.int .i64 x.1, Value.int .i64 x.2]).toArray
abbrev zero8 : Array Value := #[.int .i64 0, .int .i64 0, .int .i64 0, .int .i64 0, .int .i64 0, .int .i64 0, .int .i64 0, .int .i64 0]

theorem Blk.eight {w : World} {g : Nat} {T : TypeId} {a b c d e f u v : Value} (h : Blk w g T #[a, b, c, d, e, f, u, v]) :
    (w.cell? ⟨g, 0, none⟩ = some a ∧ w.cell? ⟨g, 1, none⟩ = some b ∧ w.cell? ⟨g, 2, none⟩ = some c ∧ w.cell? ⟨g, 3, none⟩ = some d ∧ w.cell? ⟨g, 4, none⟩ = some e ∧ w.cell? ⟨g, 5, none⟩ = some f ∧ w.cell? ⟨g, 6, none⟩ = some u ∧ w.cell? ⟨g, 7, none⟩ = some v) ∧
    (w.frozen? ⟨g, 0, none⟩ = false ∧ w.frozen? ⟨g, 1, none⟩ = false ∧ w.frozen? ⟨g, 2, none⟩ = false ∧ w.frozen? ⟨g, 3, none⟩ = false ∧ w.frozen? ⟨g, 4, none⟩ = false ∧ w.frozen? ⟨g, 5, none⟩ = false ∧ w.frozen? ⟨g, 6, none⟩ = false ∧ w.frozen? ⟨g, 7, none⟩ = false) :=
  ⟨⟨h.at 0, h.at 1, h.at 2, h.at 3, h.at 4, h.at 5, h.at 6, h.at 7⟩, h.loose 0, h.loose 1, h.loose 2, h.loose 3, h.loose 4, h.loose 5, h.loose 6, h.loose 7⟩
theorem below_set8 {w w' : World} {n g : Nat} (h : Below n w w') (hg : n ≤ g) (a b c d e f u v : Value) :
    Below n w ((((((((w'.setCell ⟨g, 0, none⟩ a).setCell ⟨g, 1, none⟩ b).setCell ⟨g, 2, none⟩ c).setCell ⟨g, 3, none⟩ d).setCell ⟨g, 4, none⟩ e).setCell ⟨g, 5, none⟩ f).setCell ⟨g, 6, none⟩ u).setCell ⟨g, 7, none⟩ v) :=
  (((((((h.setCell hg a).setCell hg b).setCell hg c).setCell hg d).setCell hg e).setCell hg f).setCell hg u).setCell hg v
/-- Eight cells that hold four tags are just these. -/
theorem cur4 {cur : Array Value} {ts : List (Int × Int)} (hs : cur.size = 8) (hl : ts.length = 4) (h : ∀ j x, ts[j]? = some x → TagAt cur j x) :
    ∃ x0 x1 x2 x3 : Int × Int, ts = [x0, x1, x2, x3] ∧ cur = #[.int .i64 x0.1, .int .i64 x0.2, .int .i64 x1.1, .int .i64 x1.2, .int .i64 x2.1, .int .i64 x2.2, .int .i64 x3.1, .int .i64 x3.2] := by
  match ts, hl with
  | [x0, x1, x2, x3], _ =>
    refine ⟨x0, x1, x2, x3, rfl, ?_⟩
    obtain ⟨a0, a1⟩ := h 0 x0 rfl
    obtain ⟨b0, b1⟩ := h 1 x1 rfl
    obtain ⟨c0, c1⟩ := h 2 x2 rfl
    obtain ⟨d0, d1⟩ := h 3 x3 rfl
    apply Array.ext_getElem?
    intro i
    match i with
    | 0 => simpa using a0
    | 1 => simpa using a1
    | 2 => simpa using b0
    | 3 => simpa using b1
    | 4 => simpa using c0
    | 5 => simpa using c1
    | 6 => simpa using d0
    | 7 => simpa using d1
    | n + 8 => rw [Array.getElem?_eq_none (by omega), Array.getElem?_eq_none (by simp)]

/-- What vectorOf answers. -/
def VecOf (w : World) (ts : List (Int × Int)) (e : Ending) (w' : World) : Prop :=
  (pastB ts = true → e = .returned (.tuple #[.agg (cells4 ts), .bool true])) ∧ (pastB ts = false → e = .returned (.tuple #[.agg zero8, .bool false])) ∧ Below w.heap.size w w'

set_option maxRecDepth 100000 in
set_option maxHeartbeats 2000000 in
theorem vectorOf_any (a : Option Addr) (c : Nat) (ts : List (Int × Int)) (w : World) (hn : ts.length ≤ 1048576) (ht : Tg w w.heap.size a ts) :
    Calls Tryz.prog 157 #[.agg #[.slice a ts.length c]] w (VecOf w ts) := by
  by_cases h4 : ts.length = 4
  · have S0 := (((Inv.start w).box 94 #[.slice a ts.length c]).box 176 zero8).box 176 zero8
    simp only [World.size_alloc] at S0
    rw [h4] at S0 ⊢
    go_enter Tryz.func157, Tryz.ntmps157
    go_wp2
    have B1 := S0.nth 1 rfl
    have B2 := S0.nth 0 rfl
    have L0 := S0.below
    clear S0
    go_loopw [15] (fun i wr => ∃ (k : Nat) (cur : Array Value), k ≤ 4 ∧ i = .int .i64 (k : Int) ∧ Blk wr (w.heap.size + 1 + 1) 176 cur ∧ cur.size = 8 ∧ (∀ j x, j < k → ts[j]? = some x → TagAt cur j x) ∧ (∀ j x, j < k → ts[j]? = some x → okB x.1 x.2 = true) ∧ Blk wr (w.heap.size + 1) 176 zero8 ∧ Below w.heap.size w wr) (fun i _ => 4 - (intOf i).toNat)
    case atStart => exact ⟨0, _, Nat.zero_le _, rfl, B2, rfl, fun j x hj => absurd hj (by omega), fun j x hj => absurd hj (by omega), B1, L0⟩
    case round =>
      obtain ⟨k, cur, hk, rfl, hV, hsz, hcur, hall, hR, hL⟩ := hrel
      have H4 := hide h4
      have hA := hide hall
      clear hall h4 B1 B2 L0
      by_cases hlt : k < 4
      · rcases ht with h0 | ⟨b, off, rfl, hb, hx⟩
        · have := H4.out; subst h0; simp at this
        · have hkl : k < ts.length := by have := H4.out; omega
          obtain ⟨hc0, hc1⟩ := hx k _ (List.getElem?_eq_getElem hkl)
          have c0 := (hL.cell (p := ⟨b, off + k * 2, none⟩) hb).trans hc0
          have c1 := (hL.cell (p := ⟨b, off + k * 2 + 1, none⟩) hb).trans hc1
          have HX := hide (List.getElem?_eq_getElem hkl)
          generalize ts[k] = x at c0 c1 HX
          obtain ⟨x1, x2⟩ := x
          simp only at c0 c1
          clear hc0 hc1 hx
          have HC := hide hcur
          clear hcur
          have i1 : (0 : Int) ≤ (k : Int) := by omega
          have i2 : (k : Int) < 4 := by omega
          have X0 := Blk.made wr 91 #[.int .i64 x1, .int .i64 x2]
          have V0 := hV.more (.cells #[.int .i64 x1, .int .i64 x2] 91)
          have R0 := hR.more (.cells #[.int .i64 x1, .int .i64 x2] 91)
          have K0 := hL.alloc hL.size (.cells #[.int .i64 x1, .int .i64 x2] 91)
          go_wp2_with fail
          refine (implTagOk_any _ _ _).mono ?_
          rintro e w1 ⟨rfl, hb1⟩
          have hL1 := K0.trans (hb1.mono K0.size)
          have V1 := V0.on hb1
          have R1 := R0.on hb1
          have X1 := (X0.on hb1).two
          cases hok : okB x1 x2
          · have hf := hide (pastB_bad HX.out hok)
            have E1 := R1.eight
            clear hok
            go_wp2
            refine bodyPost_ret (v := .tuple #[.agg zero8, .bool false]) (by simp [results, Tryz.results157, go_sem, E1]) rfl ?_
            exact ⟨fun h => (by rw [hf.out] at h; cases h), fun _ => rfl, below_set8 hL1 (by omega) _ _ _ _ _ _ _ _⟩
          · have HA := hide (show ∀ j x, j < k + 1 → ts[j]? = some x → okB x.1 x.2 = true from fun j x hj hx => by
              by_cases e : j = k
              · subst e
                have h1 := HX.out
                rw [h1] at hx
                injection hx with hx
                subst hx
                exact hok
              · exact hA.out j x (by omega) hx)
            have hs0 : k * 2 < cur.size := by omega
            have hs1 : k * 2 + 1 < cur.size := by omega
            have HS := hide (tagAt_step (ts := ts) hs1 HX.out HC.out)
            have d0 : w1.cell? ⟨w.heap.size + 1 + 1, k * 2, none⟩ = some cur[k * 2] := by rw [V1.at]; exact Array.getElem?_eq_getElem hs0
            have d1 : w1.cell? ⟨w.heap.size + 1 + 1, k * 2 + 1, none⟩ = some cur[k * 2 + 1] := by rw [V1.at]; exact Array.getElem?_eq_getElem hs1
            have f0 := V1.loose (k * 2)
            have f1 := V1.loose (k * 2 + 1)
            clear hok
            go_wp2
            exact ⟨⟨k + 1, _, by omega, by go_num, (V1.put _ _).put _ _, by simp [hsz], HS.out, HA.out, (R1.aside (by simp) _).aside (by simp) _, (hL1.setCell (by simp; omega) _).setCell (by simp; omega) _⟩, by simp [intOf]; omega⟩
      · have hk4 : k = 4 := by omega
        subst hk4
        clear hlt
        have hin : ∀ (j : Nat) (x : Int × Int), ts[j]? = some x → j < 4 := fun j x hx => by have := (List.getElem?_eq_some_iff.1 hx).1; have := H4.out; omega
        obtain ⟨x0, x1, x2, x3, hts, hcu⟩ := cur4 hsz H4.out (fun j x hx => hcur j x (hin j x hx) hx)
        have hf := hide (pastB_ok H4.out (fun j x hx => hA.out j x (hin j x hx) hx))
        have HT := hide hts
        clear hin hcur hA hts
        subst hcu
        have E1 := hR.eight
        have E2 := hV.eight
        go_wp2
        refine bodyPost_ret (v := .tuple #[.agg (cells4 [x0, x1, x2, x3]), .bool true]) (by simp [results, Tryz.results157, go_sem, E1, cells4]) rfl ?_
        exact ⟨fun _ => by rw [HT.out], fun h => (by rw [hf.out] at h; cases h), below_set8 hL (by omega) _ _ _ _ _ _ _ _⟩
  · have h4' : ((ts.length : Int) != 4) = true := by simp; omega
    have hf := hide (pastB_len h4)
    clear h4
    go_enter Tryz.func157, Tryz.ntmps157
    go_wp2
    refine bodyPost_ret (v := .tuple #[.agg zero8, .bool false]) (by simp [results, Tryz.results157, go_sem]) rfl ?_
    exact ⟨fun h => (by rw [hf.out] at h; cases h), fun _ => rfl, ((Below.refl _ _).alloc (Nat.le_refl _) _).alloc (by simp) _⟩

theorem cells4_eq (x0 x1 x2 x3 : Int × Int) : cells4 [x0, x1, x2, x3] = #[.int .i64 x0.1, .int .i64 x0.2, .int .i64 x1.1, .int .i64 x1.2, .int .i64 x2.1, .int .i64 x2.2, .int .i64 x3.1, .int .i64 x3.2] := by simp [cells4]
theorem four_of {ts : List (Int × Int)} (h : pastB ts = true) : ∃ x0 x1 x2 x3 : Int × Int, ts = [x0, x1, x2, x3] := by
  unfold pastB at h
  simp at h
  match ts, h.1 with
  | [x0, x1, x2, x3], _ => exact ⟨x0, x1, x2, x3, rfl⟩

set_option maxHeartbeats 1000000 in
theorem implPastOk_any (a : Option Addr) (c : Nat) (ts : List (Int × Int)) (w : World) (hn : ts.length ≤ 1048576) (ht : Tg w w.heap.size a ts) :
    Calls Tryz.prog 154 #[.agg #[.slice a ts.length c]] w fun e w' => e = .returned (.bool (pastB ts)) ∧ Below w.heap.size w w' := by
  have L0 := below_alloc1 w (.cells #[.slice a ts.length c] 94)
  go_enter Tryz.func154, Tryz.ntmps154
  go_wp2_with fail
  refine (vectorOf_any a c ts _ hn ((ht.on L0).up L0.size)).mono ?_
  rintro e w1 ⟨h1, h2, hb1⟩
  have hl := L0.trans (hb1.mono L0.size)
  cases hp : pastB ts
  · have he := h2 hp
    have HP := hide hp
    subst he
    clear h1 h2 L0 ht hp
    go_wp2
    go_ret
    exact ⟨ret_bool HP.out.symm, hl.alloc hl.size _⟩
  · have he := h1 hp
    have HP := hide hp
    obtain ⟨x0, x1, x2, x3, rfl⟩ := four_of hp
    rw [cells4_eq] at he
    subst he
    clear h1 h2 L0 ht hp
    go_wp2
    go_ret
    exact ⟨ret_bool HP.out.symm, hl.alloc hl.size _⟩
end Go.Proofs.YtnaggcdhimcilaaGreat
