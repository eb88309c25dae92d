/- Versions in a row: how they are read, their size, whether two rows are the same. Condition: what is said of each. -/
import Derived.Test.YtoechhbjfejmjaaDoorVers
namespace Go.Proofs.YtoechhbjfejmjaaDoor
open Go.RowKit Go.Joins

/-- A version as it lies in memory. -/
structure V where
  k : Int
  t : Int
  u : Int
  a : Option Addr
  c : Nat
  ts : List (Int × Int)
  s : ByteArray
  g : Bool
/-- Two versions say the same. -/
def V.like (v v' : V) : Prop := v.k = v'.k ∧ v.t = v'.t ∧ v.u = v'.u ∧ v.ts = v'.ts ∧ v.s = v'.s ∧ v.g = v'.g
/-- The six cells of a version from here on. -/
abbrev Six (w : World) (b o : Nat) (v : V) : Prop :=
  w.cell? ⟨b, o, none⟩ = some (.int .i64 v.k) ∧ w.cell? ⟨b, o + 1, none⟩ = some (.int .i64 v.t) ∧ w.cell? ⟨b, o + 2, none⟩ = some (.int .i64 v.u) ∧ w.cell? ⟨b, o + 3, none⟩ = some (.slice v.a v.ts.length v.c) ∧ w.cell? ⟨b, o + 4, none⟩ = some (.string v.s) ∧ w.cell? ⟨b, o + 5, none⟩ = some (.bool v.g)
theorem Six.keep {w w' : World} {b o B : Nat} {v : V} (h : Six w b o v) (hb : b < B) (hk : ∀ p : Addr, p.block < B → w'.cell? p = w.cell? p) : Six w' b o v :=
  ⟨(hk ⟨b, o, none⟩ hb).trans h.1, (hk ⟨b, o + 1, none⟩ hb).trans h.2.1, (hk ⟨b, o + 2, none⟩ hb).trans h.2.2.1, (hk ⟨b, o + 3, none⟩ hb).trans h.2.2.2.1, (hk ⟨b, o + 4, none⟩ hb).trans h.2.2.2.2.1, (hk ⟨b, o + 5, none⟩ hb).trans h.2.2.2.2.2⟩
/-- A slice that reads as these versions, in old memory (below block B). -/
def Vg (w : World) (B : Nat) (a : Option Addr) (vs : List V) : Prop :=
  vs = [] ∨ ∃ b off : Nat, a = some ⟨b, off, none⟩ ∧ b < B ∧ ∀ i v, vs[i]? = some v → Six w b (off + i * 6) v ∧ Tg w B v.a v.ts
theorem Vg.on {w w' : World} {B : Nat} {a : Option Addr} {vs : List V} (h : Vg w B a vs) (hb : Below B w w') : Vg w' B a vs := by
  rcases h with h | ⟨b, off, ha, hlt, hx⟩
  · exact .inl h
  · exact .inr ⟨b, off, ha, hlt, fun i v hi => ⟨(hx i v hi).1.keep hlt fun _ hp => hb.cell hp, (hx i v hi).2.on hb⟩⟩
theorem Vg.up {w : World} {B B' : Nat} {a : Option Addr} {vs : List V} (h : Vg w B a vs) (hB : B ≤ B') : Vg w B' a vs := by
  rcases h with h | ⟨b, off, ha, hlt, hx⟩
  · exact .inl h
  · exact .inr ⟨b, off, ha, by omega, fun i v hi => ⟨(hx i v hi).1, (hx i v hi).2.up hB⟩⟩

/-- How much these versions weigh beside their number. -/
def tot (vs : List V) : Nat := (vs.map fun v => v.ts.length + v.s.size).sum
theorem tot_step {vs : List V} {k : Nat} {v : V} (h : vs[k]? = some v) : tot (vs.take (k + 1)) = tot (vs.take k) + (v.ts.length + v.s.size) := by
  unfold tot
  rw [List.take_add_one, h]
  simp
theorem tot_all (vs : List V) : tot (vs.take vs.length) = tot vs := by rw [List.take_length]
theorem tot_le (vs : List V) (k : Nat) : tot (vs.take k) ≤ tot vs := by
  have h : vs = vs.take k ++ vs.drop k := (List.take_append_drop k vs).symm
  have e : tot vs = tot (vs.take k) + tot (vs.drop k) := by
    unfold tot
    rw [← List.sum_append, ← List.map_append, ← h]
  omega
theorem tot_mem {vs : List V} {v : V} (h : v ∈ vs) : v.ts.length + v.s.size ≤ tot vs := by
  obtain ⟨k, hk⟩ := List.getElem?_of_mem h
  have h1 := tot_step hk
  have h2 := tot_le vs (k + 1)
  omega

end Go.Proofs.YtoechhbjfejmjaaDoor
