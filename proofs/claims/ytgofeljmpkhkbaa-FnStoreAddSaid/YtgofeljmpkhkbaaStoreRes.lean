/- Stores that a call answers: how such an answer is kept, marked, and the marks found again. -/
import Derived.Test.YtgofeljmpkhkbaaStoreAdd
import Derived.Test.YtgofeljmpkhkbaaStoreTags2
namespace Go.Proofs.Ytgofeljmpkhkbaa
open Go.RowKit Go.Joins

/-- A slice of versions that a call has made: none, or in blocks of its own from B on and below U. -/
def ResS (w : World) (B U : Nat) (A : Option Addr) (us : List V) : Prop := us = [] ∨ ∃ G cur, A = some ⟨G, 0, none⟩ ∧ ORow w B U G us cur
theorem ResS.turn {P : Nat → Prop} {w w' : World} {B U : Nat} {A : Option Addr} {us : List V} (h : ResS w B U A us) (ht : Turn P w w') (hp : ∀ g, B ≤ g → g < U → ¬ P g) : ResS w' B U A us := by
  rcases h with h | ⟨G, cur, h1, h2⟩
  · exact .inl h
  · exact .inr ⟨G, cur, h1, h2.turned ht hp⟩
theorem ResS.on {w w' : World} {B U : Nat} {A : Option Addr} {us : List V} (h : ResS w B U A us) (hb : Below w.heap.size w w') : ResS w' B U A us := h.turn (P := fun _ => False) (.below hb) (fun _ _ _ h => h)
theorem ResS.drew {w : World} {B U : Nat} {A : Option Addr} {us : List V} (h : ResS w B U A us) : ResS w.drew B U A us := h.on (Below.refl _ _).drew
theorem ResS.alloc {w : World} {B U : Nat} {A : Option Addr} {us : List V} (h : ResS w B U A us) (o : Obj) : ResS (w.alloc o) B U A us := h.on (below_alloc1 w o)
theorem ResS.set {w : World} {B U : Nat} {A : Option Addr} {us : List V} (h : ResS w B U A us) {p : Addr} (hp : p.block < B ∨ U ≤ p.block) (u : Value) : ResS (w.setCell p u) B U A us :=
  h.turn (P := fun g => g = p.block) ((Turn.refl (fun g => g = p.block) w).set (p := p) rfl u) (fun g h1 h2 e => by omega)
theorem ResS.swap {w : World} {B U : Nat} {A : Option Addr} {us : List V} {o o' : Obj} (h : ResS (w.alloc o) B U A us) (hU : U ≤ w.heap.size) : ResS (w.alloc o') B U A us := by
  have ht : Turn (fun g => g = w.heap.size) (w.alloc o) (w.alloc o') := ⟨rfl, rfl, rfl, by simp, fun k hk hn => by
    have hk' : k < w.heap.size := by simp at hk; omega
    rw [Below.heap_alloc w o' k hk', Below.heap_alloc w o k hk']⟩
  exact h.turn ht (fun g h1 h2 e => by omega)
theorem ResS.vg {w : World} {B U : Nat} {A : Option Addr} {us : List V} (h : ResS w B U A us) : Vg w w.heap.size A us := by
  rcases h with h | ⟨G, cur, rfl, h2⟩
  · exact .inl h
  · exact h2.vg
theorem answerS_form {w w' : World} {rs : List V} {e : Ending} (h : AnswerS w rs e w') : ∃ (A : Option Addr) (cap : Nat) (us : List V), e = .returned (.agg #[.slice A rs.length cap]) ∧ us.length = rs.length ∧ Like us rs ∧ ResS w' w.heap.size w'.heap.size A us ∧ Below w.heap.size w w' := by
  obtain ⟨x, us, he, hl, hli, hR, hb⟩ := h
  rcases hR with ⟨h0, A, cap, rfl⟩ | ⟨G, cap, cur, rfl, hO⟩
  · subst h0
    exact ⟨A, cap, [], by rw [he, ← hl]; rfl, hl, hli, .inl rfl, hb⟩
  · exact ⟨some ⟨G, 0, none⟩, cap, us, by rw [he, hl], hl, hli, .inr ⟨G, cur, rfl, hO⟩, hb⟩

/-- Few versions, of few causes each. -/
def Few (us : List V) : Prop := us.length ≤ 4 ∧ ∀ v ∈ us, v.ts.length ≤ 4
theorem few_like {us vs : List V} (hl : us.length = vs.length) (h : Like us vs) (hf : Few vs) : Few us := ⟨by rw [hl]; exact hf.1, fun v hv => by
  obtain ⟨i, hi⟩ := List.getElem?_of_mem hv
  have hlt := (List.getElem?_eq_some_iff.1 hi).1
  have hx := List.getElem?_eq_getElem (l := vs) (i := i) (by omega)
  obtain ⟨_, _, _, e4, _⟩ := h i v _ hi hx
  rw [e4]
  exact hf.2 _ (List.mem_of_getElem? hx)⟩
theorem few_wts : ∀ (us : List V), (∀ v ∈ us, v.ts.length ≤ 4) → wts us ≤ 13 * (us.length : Int)
  | [], _ => by simp [wts]
  | v :: r, h => by
    have h1 := few_wts r (fun x hx => h x (List.mem_cons_of_mem _ hx))
    have h2 := h v (List.mem_cons_self ..)
    unfold wts at *
    simp [wt] at *
    omega
theorem Few.wts {us : List V} (h : Few us) : wts us ≤ 52 := by
  have := few_wts us h.2
  have := h.1
  omega
theorem few_store {vs : List V} (h : storeB vs = true) : Few vs := by
  refine ⟨Nat.le_of_eq (storeB_four h), fun v hv => ?_⟩
  obtain ⟨i, hi⟩ := List.getElem?_of_mem hv
  apply Classical.byContradiction
  intro hn
  have hs : slotB i v = false := by
    have h1 : noneC v.k v.t v.u v.ts.length v.s v.g = false := noneC_f (.inr (.inr (.inl (by omega))))
    have h2 : verB v.k v.t v.u v.ts v.s v.g = false := by
      cases hb : pastB v.ts with
      | false => exact verB_f (.inr (.inr (.inr (.inr (.inr (.inl hb))))))
      | true =>
        have := pastB_four hb
        omega
    exact slotB_bad h1 h2
  rw [storeB_bad hi hs] at h
  cases h
theorem few_keep {vs : List V} {v : V} (h : Few vs) (hv : v.ts.length ≤ 4) : Few (keepL vs v) := by
  refine ⟨by rw [keepL_len]; exact h.1, fun x hx => ?_⟩
  unfold keepL at hx
  split at hx
  · split at hx
    · rcases List.mem_or_eq_of_mem_set hx with hx | rfl
      · exact h.2 x hx
      · exact hv
    · exact h.2 x hx
  · exact h.2 x hx
theorem few_ver {v : V} (h : verV v = true) : v.ts.length ≤ 4 := by
  apply Classical.byContradiction
  intro hn
  have h2 : verV v = false := by
    cases hb : pastB v.ts with
    | false => exact verB_f (.inr (.inr (.inr (.inr (.inr (.inl hb))))))
    | true =>
      have := pastB_four hb
      omega
  rw [h2] at h
  cases h
theorem few_add (vs : List V) (v : V) : Few (addR vs v) := by
  unfold addR
  split
  · rename_i h
    rw [Bool.and_eq_true] at h
    exact few_keep (few_store h.1) (few_ver h.2)
  · exact ⟨by simp, fun v hv => by simp at hv⟩

/-- What marking an answer leaves. -/
def MarkedRS (w : World) (B U : Nat) (A : Option Addr) (us : List V) (k : Int) (e : Ending) (w' : World) : Prop :=
  e = .returned (.int .i64 (k + wts us)) ∧ ResS w' B U A (mkVs k us) ∧ Turn (fun g => B ≤ g ∧ g < U) w w'
end Go.Proofs.Ytgofeljmpkhkbaa
