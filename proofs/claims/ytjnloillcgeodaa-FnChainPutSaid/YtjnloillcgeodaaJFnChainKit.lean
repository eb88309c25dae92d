/- What the promises on chains share: drawn chains are small; the answers of the program and of the model are the same; cells of a chain's nodes. No condition. -/
import Derived.Test.YtjnloillcgeodaaJDrawChains2
import Derived.Test.YtjnloillcgeodaaJCfChains2
import Derived.Test.YtjnloillcgeodaaJChainFacts
namespace Go.Proofs.Ytjnloillcgeodaa
open Go.RowKit Go.Joins

theorem fewN_small {ns : List Nd} (h : FewN ns) : SmallN ns := fun n hn => by
  obtain ⟨⟨h1, h2⟩, h3, h4⟩ := h.2 n hn
  exact ⟨by omega, by omega, fun v hv => by have := (h2 v hv).1; omega, fun v hv => by have := (h4 v hv).1; omega⟩
theorem cgA_at {w : World} {A : Option Addr} {ns : List Nd} (h : CgA w A ns) (h0 : 1 ≤ ns.length) : ∃ G cur, A = some ⟨G, 0, none⟩ ∧ Cg w G ns cur := by
  rcases h with h | h
  · rw [h] at h0
    simp at h0
  · exact h
theorem verV_four {v : V} (h : verV v = true) : v.ts.length = 4 := pastB_len4 (verB_parts h).2.2.2
theorem small_ss {ns : List Nd} {i : Nat} {n : Nd} (h : SmN ns) (hi : ns[i]? = some n) : Small n.ss := (h i n hi).2.1
theorem len_ss {ns : List Nd} {i : Nat} {n : Nd} (h : SmN ns) (hi : ns[i]? = some n) : n.ss.length ≤ 1048576 := (h i n hi).1.1
theorem ts_ss {ns : List Nd} {i : Nat} {n : Nd} (h : SmN ns) (hi : ns[i]? = some n) : ∀ v ∈ n.ss, v.ts.length ≤ 1048576 := fun v hv => ((h i n hi).2.1 v hv).1
theorem addR_is {vs : List V} {v : V} (h : storeB vs = true) (hv : verV v = true) : addR vs v = keepL vs v := by
  unfold addR
  rw [h, hv]
  rfl
theorem nl_same (ns : List Nd) : NL ns ns := ⟨rfl, fun i x y hx hy => by rw [hx] at hy; injection hy with hy; rw [hy]; exact ⟨rfl, like_refl _, rfl, like_refl _⟩⟩
theorem none_v0 : noneC v0.k v0.t v0.u v0.ts.length v0.s v0.g = true := noneC_t (by show (ByteArray.mk #[]).toList.isEmpty = true; rw [no_bytes]; rfl)
theorem ver_size {v : V} (h : verV v = true) : v.s.size ≤ 9223372036854775807 := by
  have := textB_size (verB_parts h).2.1
  omega
theorem slot_size {i : Nat} {v : V} (h : slotB i v = true) : v.s.size ≤ 9223372036854775807 := by
  by_cases ht : v.t = 0
  · have e := (none_like (slot_none h ht) none_v0).2.2.2.2.1
    rw [e]
    exact (by decide : (ByteArray.mk #[]).size ≤ 9223372036854775807)
  · exact ver_size (slot_ver h ht)
theorem fine_sm {us : List Nd} (h : FineN us) : SmN us := fun i n hi => by
  obtain ⟨⟨q1, q2⟩, q3, q4⟩ := node_ts (h.2 i n hi)
  obtain ⟨r1, _, r3⟩ := nodeB_parts (h.2 i n hi)
  refine ⟨⟨by omega, by omega⟩, fun v hv => ⟨by have := q2 v hv; omega, ?_⟩, fun v hv => ⟨by have := q4 v hv; omega, ver_size (r3 v hv)⟩⟩
  obtain ⟨j, hj⟩ := List.getElem?_of_mem hv
  exact slot_size (store_slot r1 hj)
end Go.Proofs.Ytjnloillcgeodaa
