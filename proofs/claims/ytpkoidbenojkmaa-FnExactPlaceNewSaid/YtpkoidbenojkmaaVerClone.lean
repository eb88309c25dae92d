/- Contracts of the functions that copy a version, of program and model. Condition: at most 1048576 causes. -/
import Derived.Test.YtpkoidbenojkmaaStoreCopy
import Derived.Test.YtpkoidbenojkmaaPastRes
import Derived.Deep.AppendLies
namespace Go.Proofs.Ytpkoidbenojkmaa
open Go.RowKit Go.Joins

theorem flatT_len (ts : List (Int × Int)) : (flatT ts).length = ts.length * 2 := by
  induction ts with
  | nil => rfl
  | cons x r ih => simp [flatT] at *; omega
theorem flatT_get : ∀ (ts : List (Int × Int)) (j : Nat) (u : Value), (flatT ts)[j]? = some u → ∃ (i : Nat) (x : Int × Int), ts[i]? = some x ∧ (j = i * 2 ∧ u = .int .i64 x.1 ∨ j = i * 2 + 1 ∧ u = .int .i64 x.2)
  | [], j, u, h => by simp [flatT] at h
  | x :: r, 0, u, h => ⟨0, x, rfl, .inl ⟨rfl, by simp [flatT] at h; exact h.symm⟩⟩
  | x :: r, 1, u, h => ⟨0, x, rfl, .inr ⟨rfl, by simp [flatT] at h; exact h.symm⟩⟩
  | x :: r, j + 2, u, h => by
    have h' : (flatT r)[j]? = some u := by
      have e : flatT (x :: r) = .int .i64 x.1 :: .int .i64 x.2 :: flatT r := by simp [flatT]
      rw [e] at h
      simpa using h
    obtain ⟨i, y, h1, h2⟩ := flatT_get r j u h'
    rcases h2 with ⟨h2, q⟩ | ⟨h2, q⟩
    · exact ⟨i + 1, y, by simpa using h1, .inl ⟨by omega, q⟩⟩
    · exact ⟨i + 1, y, by simpa using h1, .inr ⟨by omega, q⟩⟩
theorem tg_news {w : World} {b off : Nat} {ts : List (Int × Int)} (hx : ∀ (i : Nat) x, ts[i]? = some x → w.cell? ⟨b, off + i * 2, none⟩ = some (.int .i64 x.1) ∧ w.cell? ⟨b, off + i * 2 + 1, none⟩ = some (.int .i64 x.2)) (j : Nat) (u : Value) (hj : (flatT ts)[j]? = some u) :
    w.cell? ((⟨b, off, none⟩ : Addr).add j) = some u := by
  have hadd : (⟨b, off, none⟩ : Addr).add j = ⟨b, off + j, none⟩ := by unfold Addr.add; split <;> simp_all
  rw [hadd]
  obtain ⟨i, x, h1, h2 | h2⟩ := flatT_get ts j u hj
  · obtain ⟨rfl, rfl⟩ := h2
    exact (hx i x h1).1
  · obtain ⟨rfl, rfl⟩ := h2
    exact (hx i x h1).2

theorem flat_tagsV {cur : Array Value} {p : List (Int × Int)} {m : Nat} (h : cur.toList.take m = flatT p) : ∀ i x, p[i]? = some x → TagAt cur i x := by
  intro i x hx
  obtain ⟨h0, h1⟩ := flatT_at p i x hx
  rw [← h] at h0 h1
  refine ⟨?_, ?_⟩
  · obtain ⟨hl, _⟩ := List.getElem?_eq_some_iff.1 h0
    rw [List.length_take] at hl
    rw [List.getElem?_take_of_lt (by omega)] at h0
    simpa using h0
  · obtain ⟨hl, _⟩ := List.getElem?_eq_some_iff.1 h1
    rw [List.length_take] at hl
    rw [List.getElem?_take_of_lt (by omega)] at h1
    simpa using h1
theorem own_row {w : World} {base g cap n : Nat} {ts : List (Int × Int)} (h : w.ownsRow base 55 2 (.slice (some ⟨g, 0, none⟩) n cap) n (flatT ts)) : ∃ cur, base ≤ g ∧ Blk w g 55 cur ∧ n * 2 ≤ cur.size ∧ ∀ i x, ts[i]? = some x → TagAt cur i x := by
  rcases h.2 with ⟨h, _⟩ | ⟨g', cap', cur, h, hg', hb', hn', hm', hs', ht'⟩
  · cases h
  · injection h with h1 h2 h3
    injection h1 with h1
    injection h1 with h1
    subst h1
    exact ⟨cur, hg', hb', by omega, flat_tagsV ht'⟩

/-- What a copy of a version is. -/
def Cloned (w : World) (v : V) (e : Ending) (w' : World) : Prop :=
  ∃ v' : V, e = .returned (.agg (verC v'.k v'.t v'.u v'.a v'.ts.length v'.c v'.s v'.g)) ∧ V.like v' v ∧ Own1 w' w.heap.size w'.heap.size v' ∧ Below w.heap.size w w'

end Go.Proofs.Ytpkoidbenojkmaa
