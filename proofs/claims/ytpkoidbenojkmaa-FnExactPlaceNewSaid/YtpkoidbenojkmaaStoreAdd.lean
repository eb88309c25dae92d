/- Contracts of StoreAdd, of program and model. Condition: as many versions and tags as a law lets by. -/
import Derived.Test.YtpkoidbenojkmaaStoreKeep
namespace Go.Proofs.Ytpkoidbenojkmaa
open Go.RowKit Go.Joins
attribute [local go_sem ↓] Go.wp_at_zero Go.wp_at_succ

/-- A version as plain data. -/
def verV (v : V) : Bool := verB v.k v.t v.u v.ts v.s v.g
/-- What StoreAdd answers. -/
def addR (vs : List V) (v : V) : List V := if (storeB vs && verV v) = true then keepL vs v else []
/-- An answer that is a store. -/
def AnswerS (w : World) (rs : List V) (e : Ending) (w' : World) : Prop :=
  ∃ (x : Value) (us : List V), e = .returned (.agg #[x]) ∧ us.length = rs.length ∧ Like us rs ∧ ResV w' w.heap.size w'.heap.size x us ∧ Below w.heap.size w w'
theorem answerS_nil {w w' : World} {rs : List V} (h : rs = []) (hb : Below w.heap.size w w') : AnswerS w rs (.returned (.agg #[.slice none 0 0])) w' := by
  subst h
  exact ⟨_, [], rfl, rfl, fun i v v' hi => by simp at hi, .inl ⟨rfl, _, _, rfl⟩, hb⟩
theorem res_four {w : World} {B U : Nat} {x : Value} {us : List V} (h : ResV w B U x us) (h4 : us.length = 4) : ∃ G cap cur, x = .slice (some ⟨G, 0, none⟩) 4 cap ∧ ORow w B U G us cur := by
  rcases h with ⟨rfl, _⟩ | ⟨G, cap, cur, rfl, hO⟩
  · simp at h4
  · exact ⟨G, cap, cur, by rw [h4], hO⟩
theorem like_keep {us vs : List V} {v : V} (hl : us.length = vs.length) (h : Like us vs) : Like (keepL us v) (keepL vs v) := by
  cases hx : us[v.k.toNat]? with
  | none =>
    have hy : vs[v.k.toNat]? = none := by
      rw [List.getElem?_eq_none_iff] at hx ⊢
      omega
    have e1 : keepL us v = us := by unfold keepL; rw [hx]
    have e2 : keepL vs v = vs := by unfold keepL; rw [hy]
    rw [e1, e2]
    exact h
  | some x =>
    have hlt := (List.getElem?_eq_some_iff.1 hx).1
    have hy := List.getElem?_eq_getElem (l := vs) (i := v.k.toNat) (by omega)
    have hl2 := h _ _ _ hx hy
    cases hb : lessB x.t x.u v.t v.u with
    | false =>
      rw [keepL_no hx hb, keepL_no hy (by rw [← hl2.2.1, ← hl2.2.2.1]; exact hb)]
      exact h
    | true =>
      rw [keepL_yes hx hb, keepL_yes hy (by rw [← hl2.2.1, ← hl2.2.2.1]; exact hb)]
      intro i a b ha hb'
      by_cases e : i = v.k.toNat
      · subst e
        rw [List.getElem?_set_self (by omega)] at ha hb'
        injection ha with ha
        injection hb' with hb'
        subst ha hb'
        exact ⟨rfl, rfl, rfl, rfl, rfl, rfl⟩
      · rw [List.getElem?_set_ne (fun e' => e e'.symm)] at ha hb'
        exact h i a b ha hb'
theorem like_trans {a b c : List V} (hl : a.length = b.length) (h : Like a b) (k : Like b c) : Like a c := fun i x z hx hz => by
  have hlt := (List.getElem?_eq_some_iff.1 hx).1
  have hy := List.getElem?_eq_getElem (l := b) (i := i) (by omega)
  obtain ⟨a1, a2, a3, a4, a5, a6⟩ := h i x _ hx hy
  obtain ⟨b1, b2, b3, b4, b5, b6⟩ := k i _ z hy hz
  exact ⟨a1.trans b1, a2.trans b2, a3.trans b3, a4.trans b4, a5.trans b5, a6.trans b6⟩
theorem verV_key {v : V} (h : verV v = true) : 0 ≤ v.k ∧ v.k ≤ 3 := by
  unfold verV verB at h
  simp at h
  omega

end Go.Proofs.Ytpkoidbenojkmaa
