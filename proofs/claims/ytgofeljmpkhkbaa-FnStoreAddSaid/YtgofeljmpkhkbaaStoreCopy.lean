/- Copies of stores in memory of their own; how stores are marked and the marks found again. Condition: as many versions and tags as a law lets by. -/
import Derived.Test.YtgofeljmpkhkbaaVerRows
namespace Go.Proofs.Ytgofeljmpkhkbaa
open Go.RowKit Go.Joins

theorem Own1.low {w : World} {B B' U : Nat} {v : V} (h : Own1 w B U v) (hb : B' ≤ B) : Own1 w B' U v := by
  rcases h with h | ⟨g, cur, h1, h2, h3, h4, h5, h6⟩
  · exact .inl h
  · exact .inr ⟨g, cur, h1, by omega, h3, h4, h5, h6⟩
theorem ORow.low {w : World} {B B' U G : Nat} {vs : List V} {cur : Array Value} (h : ORow w B U G vs cur) (hb : B' ≤ B) : ORow w B' U G vs cur :=
  ⟨h.blk, Nat.le_trans hb h.lo, h.hi, h.size, h.at', fun i v hi => (h.own i v hi).low hb, h.apart⟩
/-- One version more in a row. -/
theorem ORow.snoc {w w' : World} {B U G k : Nat} {us : List V} {cur cur' : Array Value} {v : V} (h : ORow w B U G us cur) (hk : us.length = k) (hb : Blk w' G 32 cur') (hs : (k + 1) * 6 ≤ cur'.size)
    (hv : VerAt cur' k v) (ho : ∀ i x, i < k → VerAt cur i x → VerAt cur' i x) (hown : Own1 w' B U v) (hap : ∀ (i : Nat) x, us[i]? = some x → x.ts ≠ [] → x.a ≠ v.a)
    {P : Nat → Prop} (ht : Turn P w w') (hP : ∀ g, P g → g = G) : ORow w' B U G (us ++ [v]) cur' := by
  have hget : ∀ (i : Nat) x, (us ++ [v])[i]? = some x → (i = k ∧ x = v) ∨ (i < k ∧ us[i]? = some x) := by
    intro i x hx
    by_cases e : i < us.length
    · rw [List.getElem?_append_left e] at hx
      exact .inr ⟨by omega, hx⟩
    · rw [List.getElem?_append_right (by omega)] at hx
      have h0 : i - us.length = 0 := by
        have := (List.getElem?_eq_some_iff.1 hx).1
        simp at this
        omega
      rw [h0] at hx
      simp at hx
      exact .inl ⟨by omega, hx.symm⟩
  refine ⟨hb, h.lo, h.hi, by simp only [List.length_append, List.length_singleton]; omega, fun i x hx => ?_, fun i x hx => ?_, fun i j x y hne hx hy hn hn' => ?_⟩
  · rcases hget i x hx with ⟨rfl, rfl⟩ | ⟨e, hx⟩
    · exact hv
    · exact ho i x e (h.at' i x hx)
  · rcases hget i x hx with ⟨rfl, rfl⟩ | ⟨e, hx⟩
    · exact hown
    · exact (h.own i x hx).turned ht (fun g hg _ _ hne hp => h.apartG hx hne hg (hP g hp))
  · rcases hget i x hx with ⟨e1, e2⟩ | ⟨e, hq⟩ <;> rcases hget j y hy with ⟨e3, e4⟩ | ⟨e', hq'⟩
    · omega
    · rw [e2]; exact fun e => hap j y hq' hn' e.symm
    · rw [e4]; exact hap i x hq hn
    · exact h.apart i j x y hne hq hq' hn hn'
theorem orow_step {w : World} {B U G k : Nat} {us : List V} {cur : Array Value} {v : V} (h : ORow w B U G us cur) (hk : us.length = k) (ho : Own1 w B U v) (hap : ∀ (i : Nat) x, us[i]? = some x → x.ts ≠ [] → x.a ≠ v.a) (hs : k * 6 + 5 < cur.size) (hG : v.ts ≠ [] → v.a ≠ some ⟨G, 0, none⟩) :
    ORow ((((((w.setCell ⟨G, k * 6, none⟩ (.int .i64 v.k)).setCell ⟨G, k * 6 + 1, none⟩ (.int .i64 v.t)).setCell ⟨G, k * 6 + 2, none⟩ (.int .i64 v.u)).setCell ⟨G, k * 6 + 3, none⟩ (.slice v.a v.ts.length v.c)).setCell ⟨G, k * 6 + 4, none⟩ (.string v.s)).setCell ⟨G, k * 6 + 5, none⟩ (.bool v.g)) B U G (us ++ [v]) (put6 cur k v) := by
  have ht : Turn (fun g => g = G) w ((((((w.setCell ⟨G, k * 6, none⟩ (.int .i64 v.k)).setCell ⟨G, k * 6 + 1, none⟩ (.int .i64 v.t)).setCell ⟨G, k * 6 + 2, none⟩ (.int .i64 v.u)).setCell ⟨G, k * 6 + 3, none⟩ (.slice v.a v.ts.length v.c)).setCell ⟨G, k * 6 + 4, none⟩ (.string v.s)).setCell ⟨G, k * 6 + 5, none⟩ (.bool v.g)) :=
    ((((((Turn.refl (fun g => g = G) w).set (p := ⟨G, k * 6, none⟩) rfl _).set (p := ⟨G, k * 6 + 1, none⟩) rfl _).set (p := ⟨G, k * 6 + 2, none⟩) rfl _).set (p := ⟨G, k * 6 + 3, none⟩) rfl _).set (p := ⟨G, k * 6 + 4, none⟩) rfl _).set (p := ⟨G, k * 6 + 5, none⟩) rfl _
  refine h.snoc hk ((((((h.blk.put _ _).put _ _).put _ _).put _ _).put _ _).put _ _) (by simp; omega) (verAt_put hs) (fun i x hi hx => verAt_other (by omega) hx) (ho.turned ht (fun g hg _ _ hne e => hG hne (by rw [hg, e]))) hap ht (fun g e => e)

/-- What toVerS leaves: a copy in memory of its own. -/
def CopiedVO (w : World) (vs : List V) (e : Ending) (w' : World) : Prop :=
  ∃ (g : Nat) (us : List V) (cur : Array Value), e = .returned (.slice (some ⟨g, 0, none⟩) vs.length vs.length) ∧ us.length = vs.length ∧ Like us vs ∧ ORow w' w.heap.size w'.heap.size g us cur ∧ Below w.heap.size w w'
/-- What toStore leaves: a copy in memory of its own. -/
def CopiedSO (w : World) (vs : List V) (e : Ending) (w' : World) : Prop :=
  ∃ (g : Nat) (us : List V) (cur : Array Value), e = .returned (.agg #[.slice (some ⟨g, 0, none⟩) vs.length vs.length]) ∧ us.length = vs.length ∧ Like us vs ∧ ORow w' w.heap.size w'.heap.size g us cur ∧ Below w.heap.size w w'
end Go.Proofs.Ytgofeljmpkhkbaa
