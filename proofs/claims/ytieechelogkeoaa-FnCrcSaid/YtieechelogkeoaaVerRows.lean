/- Rows of versions in memory of their own: how they are kept, marked, and how the marks are found again. Condition: as many versions and tags as a law lets by. -/
import Derived.Test.YtieechelogkeoaaMarkText
import Derived.Test.YtieechelogkeoaaPastMark
import Derived.Test.YtieechelogkeoaaTks
namespace Go.Proofs.Ytieechelogkeoaa
open Go.RowKit Go.Joins

/-- Nothing has turned but in blocks of P. -/
structure Turn (P : Nat → Prop) (w w' : World) : Prop where
  os : w'.os = w.os
  tape : w'.tape = w.tape
  output : w'.output = w.output
  size : w.heap.size ≤ w'.heap.size
  block : ∀ k, k < w.heap.size → ¬ P k → w'.heap[k]? = w.heap[k]?
theorem Turn.refl (P : Nat → Prop) (w : World) : Turn P w w := ⟨rfl, rfl, rfl, Nat.le_refl _, fun _ _ _ => rfl⟩
theorem Turn.of {P : Nat → Prop} {w w' : World} {row : Option Nat} (h : w.grownBy w' row) (hr : ∀ g, row = some g → P g) : Turn P w w' := ⟨h.os, h.tape, h.output, h.size, fun k hk hn => h.block k hk (fun e => hn (hr k e.symm))⟩
theorem Turn.below {P : Nat → Prop} {w w' : World} (h : Below w.heap.size w w') : Turn P w w' := ⟨h.os, h.tape, h.output, h.size, fun k hk _ => h.block k hk⟩
theorem Turn.trans {P : Nat → Prop} {a b c : World} (h : Turn P a b) (k : Turn P b c) : Turn P a c :=
  ⟨k.os.trans h.os, k.tape.trans h.tape, k.output.trans h.output, Nat.le_trans h.size k.size, fun i hi hn => (k.block i (Nat.lt_of_lt_of_le hi h.size) hn).trans (h.block i hi hn)⟩
theorem Turn.set {P : Nat → Prop} {w w' : World} (h : Turn P w w') {p : Addr} (hp : P p.block) (u : Value) : Turn P w (w'.setCell p u) :=
  ⟨h.os, h.tape, h.output, by simpa [World.setCell] using h.size, fun k hk hn => (Below.heap_setCell w' p u k (fun e => hn (e ▸ hp))).trans (h.block k hk hn)⟩
theorem Blk.turned {P : Nat → Prop} {w w' : World} {g : Nat} {t : TypeId} {cs : Array Value} (h : Blk w g t cs) (ht : Turn P w w') (hg : ¬ P g) : Blk w' g t cs := (ht.block g h.inside hg).trans h
theorem below_turned {P : Nat → Prop} {n : Nat} {w w1 w2 : World} (h : Below n w w1) (ht : Turn P w1 w2) (hn : n ≤ w1.heap.size) (hp : ∀ g, P g → n ≤ g) : Below n w w2 :=
  ⟨ht.os.trans h.os, ht.tape.trans h.tape, ht.output.trans h.output, Nat.le_trans h.size ht.size, fun k hk => (ht.block k (by omega) (fun hP => by have := hp k hP; omega)).trans (h.block k hk)⟩
theorem Inv.turned {P : Nat → Prop} {w w1 w2 : World} {n : Nat} {bs : List (Nat × TypeId × Array Value)} (h : Inv w n bs w1) (ht : Turn P w1 w2) (hw : ∀ g, P g → w.heap.size ≤ g) (hs : ∀ x ∈ bs, ¬ P x.1) : Inv w n bs w2 :=
  ⟨below_turned h.below ht h.below.size hw, Nat.le_trans h.room ht.size, fun x hx => ⟨(h.blk x hx).1, (h.blk x hx).2.1, (h.blk x hx).2.2.turned ht (hs x hx)⟩⟩

/-- A version's causes: none, or in a block of their own from B on and below U. -/
def Own1 (w : World) (B U : Nat) (v : V) : Prop :=
  v.ts = [] ∨ ∃ (g : Nat) (cur : Array Value), v.a = some ⟨g, 0, none⟩ ∧ B ≤ g ∧ g < U ∧ Blk w g 70 cur ∧ v.ts.length * 2 ≤ cur.size ∧ ∀ i x, v.ts[i]? = some x → TagAt cur i x
theorem Own1.turned {P : Nat → Prop} {w w' : World} {B U : Nat} {v : V} (h : Own1 w B U v) (ht : Turn P w w') (hp : ∀ g, v.a = some ⟨g, 0, none⟩ → B ≤ g → g < U → v.ts ≠ [] → ¬ P g) : Own1 w' B U v := by
  by_cases h0 : v.ts = []
  · exact .inl h0
  · rcases h with h | ⟨g, cur, h1, h2, h3, h4, h5, h6⟩
    · exact .inl h
    · exact .inr ⟨g, cur, h1, h2, h3, h4.turned ht (hp g h1 h2 h3 h0), h5, h6⟩
theorem Own1.on {w w' : World} {B U : Nat} {v : V} (h : Own1 w B U v) (hb : Below w.heap.size w w') : Own1 w' B U v := h.turned (P := fun _ => False) (.below hb) (fun _ _ _ _ _ h => h)
theorem Own1.wide {w : World} {B U U' : Nat} {v : V} (h : Own1 w B U v) (hu : U ≤ U') : Own1 w B U' v := by
  rcases h with h | ⟨g, cur, h1, h2, h3, h4, h5, h6⟩
  · exact .inl h
  · exact .inr ⟨g, cur, h1, h2, by omega, h4, h5, h6⟩
theorem Own1.tg {w : World} {B U : Nat} {v : V} (h : Own1 w B U v) : Tg w w.heap.size v.a v.ts := by
  rcases h with h | ⟨g, cur, h1, h2, h3, h4, h5, h6⟩
  · exact .inl h
  · rw [h1]; exact Tg.of h4 h4.inside h6

/-- A row of versions in a block of its own, the causes of each in another. -/
structure ORow (w : World) (B U G : Nat) (vs : List V) (cur : Array Value) : Prop where
  blk : Blk w G 79 cur
  lo : B ≤ G
  hi : G < U
  size : vs.length * 6 ≤ cur.size
  at' : ∀ (i : Nat) v, vs[i]? = some v → VerAt cur i v
  own : ∀ (i : Nat) v, vs[i]? = some v → Own1 w B U v
  apart : ∀ (i j : Nat) v v', i ≠ j → vs[i]? = some v → vs[j]? = some v' → v.ts ≠ [] → v'.ts ≠ [] → v.a ≠ v'.a
theorem ver_ne_tag : (79 : TypeId) ≠ 70 := by decide
theorem blk_one {w : World} {g : Nat} {T T' : TypeId} {cs cs' : Array Value} (h : Blk w g T cs) (h' : Blk w g T' cs') : T = T' := (blk_type h h').1
theorem Own1.tk {w w' : World} {B U : Nat} {v : V} (h : Own1 w B U v) (hk : Tk w w') : Own1 w' B U v := by
  rcases h with h | ⟨g, cur, h1, h2, h3, h4, h5, h6⟩
  · exact .inl h
  · exact .inr ⟨g, cur, h1, h2, h3, hk _ _ h4, h5, h6⟩
section
variable {w w' : World} {B U G : Nat} {vs : List V} {cur : Array Value} {P : Nat → Prop}
theorem ORow.turned (h : ORow w B U G vs cur) (ht : Turn P w w') (hp : ∀ g, B ≤ g → g < U → ¬ P g) : ORow w' B U G vs cur :=
  ⟨h.blk.turned ht (hp G h.lo h.hi), h.lo, h.hi, h.size, h.at', fun i v hi => (h.own i v hi).turned ht (fun g _ h1 h2 _ => hp g h1 h2), h.apart⟩
theorem ORow.on (h : ORow w B U G vs cur) (hb : Below w.heap.size w w') : ORow w' B U G vs cur := h.turned (P := fun _ => False) (.below hb) (fun _ _ _ h => h)
theorem ORow.wide (h : ORow w B U G vs cur) {U' : Nat} (hu : U ≤ U') : ORow w B U' G vs cur := ⟨h.blk, h.lo, Nat.lt_of_lt_of_le h.hi hu, h.size, h.at', fun i v hi => (h.own i v hi).wide hu, h.apart⟩
theorem ORow.vg (h : ORow w B U G vs cur) : Vg w w.heap.size (some ⟨G, 0, none⟩) vs :=
  .inr ⟨G, 0, rfl, h.blk.inside, fun i v hi => by
    obtain ⟨h0, h1, h2, h3, h4, h5⟩ := h.at' i v hi
    refine ⟨⟨?_, ?_, ?_, ?_, ?_, ?_⟩, (h.own i v hi).tg⟩
    all_goals
      rw [Nat.zero_add, h.blk.at]
      assumption⟩
end

/-- How many marks a version bears. -/
def wt (v : V) : Int := 5 + 2 * (v.ts.length : Int)
def wts (vs : List V) : Int := (vs.map wt).sum
theorem wts_step {vs : List V} {j : Nat} {v : V} (h : vs[j]? = some v) : wts (vs.take (j + 1)) = wts (vs.take j) + wt v := by
  unfold wts
  rw [List.take_add_one, h]
  simp
theorem wts_pos (vs : List V) : 0 ≤ wts vs := by
  induction vs with
  | nil => simp [wts]
  | cons v r ih => unfold wts at *; simp [wt]; omega
theorem wts_le (vs : List V) (j : Nat) : wts (vs.take j) ≤ wts vs := by
  have e : wts vs = wts (vs.take j) + wts (vs.drop j) := by
    unfold wts
    rw [← List.sum_append, ← List.map_append, List.take_append_drop]
  have := wts_pos (vs.drop j)
  omega
theorem wts_all (vs : List V) : wts (vs.take vs.length) = wts vs := by rw [List.take_length]
theorem wts_tot (vs : List V) : wts vs ≤ 5 * (vs.length : Int) + 2 * (tot vs : Int) := by
  induction vs with
  | nil => simp [wts, tot]
  | cons v r ih => unfold wts tot at *; simp [wt] at *; omega
/-- A version that bears marks from number k on. -/
def mkV (k : Int) (v : V) : V := ⟨k, k + 1, k + 1 + 1, v.a, v.c, marksL (k + 1 + 1 + 1) v.ts.length, markT (k + 1 + 1 + 1 + 2 * (v.ts.length : Int)), (k + 1 + 1 + 1 + 2 * (v.ts.length : Int) + 1) % 3 == 0⟩
def mkVs : Int → List V → List V
  | _, [] => []
  | k, v :: r => mkV k v :: mkVs (k + wt v) r
theorem mkVs_len (k : Int) (vs : List V) : (mkVs k vs).length = vs.length := by
  induction vs generalizing k with
  | nil => rfl
  | cons v r ih => simp [mkVs, ih]
theorem mkVs_at (k : Int) (vs : List V) (j : Nat) : (mkVs k vs)[j]? = (vs[j]?).map (mkV (k + wts (vs.take j))) := by
  induction vs generalizing k j with
  | nil => simp [mkVs]
  | cons v r ih =>
    cases j with
    | zero => simp [mkVs, wts]
    | succ j =>
      simp only [mkVs, List.getElem?_cons_succ, ih, List.take_succ_cons]
      congr 1
      funext x
      unfold wts
      simp [Int.add_assoc]

/-- One version of a row turned: its own cells, and its causes' block. -/
theorem ORow.turn1 {w w' : World} {B U G j : Nat} {l : List V} {cur cur' : Array Value} {v v' : V} (h : ORow w B U G l cur) (hj : l[j]? = some v) (hb : Blk w' G 79 cur') (hs : cur'.size = cur.size)
    (hv : VerAt cur' j v') (ho : ∀ i x, i ≠ j → VerAt cur i x → VerAt cur' i x) (ha : v'.a = v.a) (hl : v'.ts.length = v.ts.length) (hown : Own1 w' B U v')
    {P : Nat → Prop} (ht : Turn P w w') (hP : ∀ g, P g → g = G ∨ (v.ts ≠ [] ∧ v.a = some ⟨g, 0, none⟩)) : ORow w' B U G (l.set j v') cur' := by
  have hjl := (List.getElem?_eq_some_iff.1 hj).1
  have hemp : v'.ts = [] ↔ v.ts = [] := by rw [← List.length_eq_zero_iff, ← List.length_eq_zero_iff, hl]
  have hget : ∀ (i : Nat) x, (l.set j v')[i]? = some x → (i = j ∧ x = v') ∨ (i ≠ j ∧ l[i]? = some x) := by
    intro i x hx
    by_cases e : i = j
    · subst e
      rw [List.getElem?_set_self hjl] at hx
      injection hx with hx
      exact .inl ⟨rfl, hx.symm⟩
    · rw [List.getElem?_set_ne (fun e' => e e'.symm)] at hx
      exact .inr ⟨e, hx⟩
  refine ⟨hb, h.lo, h.hi, by rw [List.length_set, hs]; exact h.size, fun i x hx => ?_, fun i x hx => ?_, fun i i' x x' hne hx hx' hn hn' => ?_⟩
  · rcases hget i x hx with ⟨rfl, rfl⟩ | ⟨e, hx⟩
    · exact hv
    · exact ho i x e (h.at' i x hx)
  · rcases hget i x hx with ⟨rfl, rfl⟩ | ⟨e, hx⟩
    · exact hown
    · refine (h.own i x hx).turned ht (fun g hg _ _ hne hP' => ?_)
      rcases hP g hP' with rfl | ⟨h1, h2⟩
      · rcases h.own i x hx with h0 | ⟨g', c', e1, _, _, e2, _⟩
        · exact hne h0
        · rw [e1] at hg
          injection hg with hg
          injection hg with hg
          subst hg
          exact ver_ne_tag (blk_one h.blk e2)
      · exact h.apart i j x v e hx hj hne h1 (hg.trans h2.symm)
  · rcases hget i x hx with ⟨rfl, rfl⟩ | ⟨e, hq⟩ <;> rcases hget i' x' hx' with ⟨rfl, rfl⟩ | ⟨e', hq'⟩
    · exact absurd rfl hne
    · rw [ha]; exact h.apart i i' v x' hne hj hq' (fun h0 => hn (hemp.2 h0)) hn'
    · rw [ha]; exact h.apart i i' x v hne hq hj hn (fun h0 => hn' (hemp.2 h0))
    · exact h.apart i i' x x' hne hq hq' hn hn'

/-- What marking the causes of one version leaves. -/
def MarkedO (w : World) (B U : Nat) (v : V) (k : Int) (e : Ending) (w' : World) : Prop :=
  e = .returned (.int .i64 (k + 2 * (v.ts.length : Int))) ∧ (∀ v' : V, v'.a = v.a → v'.ts = marksL k v.ts.length → Own1 w' B U v') ∧ Turn (fun g => v.ts ≠ [] ∧ v.a = some ⟨g, 0, none⟩) w w'
theorem verAt_put3 {cur : Array Value} {j : Nat} {k : Int} {c4 c5 : Value} {v : V} (hs : j * 6 + 5 < cur.size) (hv : VerAt cur j v) (s : ByteArray) (g : Bool) (ts : List (Int × Int)) (hl : ts.length = v.ts.length) (h4 : c4 = .string s) (h5 : c5 = .bool g) :
    VerAt (((((cur.setIfInBounds (j * 6) (.int .i64 k)).setIfInBounds (j * 6 + 1) (.int .i64 (k + 1))).setIfInBounds (j * 6 + 1 + 1) (.int .i64 (k + 1 + 1))).setIfInBounds (j * 6 + 4) c4).setIfInBounds (j * 6 + 5) c5) j ⟨k, k + 1, k + 1 + 1, v.a, v.c, ts, s, g⟩ := by
  subst h4 h5
  obtain ⟨q0, q1, q2, q3, q4, q5⟩ := hv
  refine ⟨?_, ?_, ?_, ?_, ?_, ?_⟩
  all_goals
    simp only [Array.getElem?_setIfInBounds, Array.size_setIfInBounds]
    repeat first | rw [if_pos trivial] | rw [if_neg (by omega)] | rw [if_pos (by omega)]
    try first | rfl | (rw [hl]; exact q3)
theorem verAt_put3_other {cur : Array Value} {i j : Nat} {c0 c1 c2 c4 c5 : Value} {v : V} (hne : i ≠ j) (hv : VerAt cur i v) :
    VerAt (((((cur.setIfInBounds (j * 6) c0).setIfInBounds (j * 6 + 1) c1).setIfInBounds (j * 6 + 1 + 1) c2).setIfInBounds (j * 6 + 4) c4).setIfInBounds (j * 6 + 5) c5) i v := by
  obtain ⟨q0, q1, q2, q3, q4, q5⟩ := hv
  refine ⟨?_, ?_, ?_, ?_, ?_, ?_⟩
  all_goals
    simp only [Array.getElem?_setIfInBounds, Array.size_setIfInBounds]
    repeat rw [if_neg (by omega)]
    assumption
theorem ORow.apartG {w : World} {B U G j g : Nat} {l : List V} {cur : Array Value} {v : V} (h : ORow w B U G l cur) (hj : l[j]? = some v) (hne : v.ts ≠ []) (hg : v.a = some ⟨g, 0, none⟩) : g ≠ G := by
  intro e
  subst e
  rcases h.own j v hj with h0 | ⟨g', c', e1, _, _, e2, _⟩
  · exact hne h0
  · rw [e1] at hg
    injection hg with hg
    injection hg with hg
    subst hg
    exact ver_ne_tag (blk_one h.blk e2)

/-- What markVerS leaves: a row that bears the marks; nothing else has turned. -/
def MarkedVR (w : World) (B U G : Nat) (vs : List V) (k : Int) (e : Ending) (w' : World) : Prop :=
  e = .returned (.int .i64 (k + wts vs)) ∧ (∃ cur, ORow w' B U G (mkVs k vs) cur) ∧ Turn (fun g => B ≤ g ∧ g < U) w w'

/-- The blocks of a row: its own, and those of its causes. -/
def Foot (G : Nat) (vs : List V) (g : Nat) : Prop := g = G ∨ ∃ (i : Nat) (v : V), vs[i]? = some v ∧ v.ts ≠ [] ∧ v.a = some ⟨g, 0, none⟩
theorem ORow.foot {w : World} {B U G : Nat} {vs : List V} {cur : Array Value} (h : ORow w B U G vs cur) {g : Nat} (hg : Foot G vs g) : B ≤ g ∧ g < U := by
  rcases hg with rfl | ⟨i, v, hi, hn, ha⟩
  · exact ⟨h.lo, h.hi⟩
  · rcases h.own i v hi with h0 | ⟨g', c', e1, q1, q2, _⟩
    · exact absurd h0 hn
    · rw [e1] at ha
      injection ha with ha
      injection ha with ha
      subst ha
      exact ⟨q1, q2⟩
/-- The same, of the row's own blocks alone. -/
def MarkedVF (w : World) (B U G : Nat) (vs : List V) (k : Int) (e : Ending) (w' : World) : Prop :=
  e = .returned (.int .i64 (k + wts vs)) ∧ (∃ cur, ORow w' B U G (mkVs k vs) cur) ∧ Turn (Foot G vs) w w'

end Go.Proofs.Ytieechelogkeoaa
