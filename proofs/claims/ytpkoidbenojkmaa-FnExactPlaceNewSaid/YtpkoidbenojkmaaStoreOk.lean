/- Contracts of the program's and the model's functions that say whether a store is valid. Condition: at most 1048576 versions, and tags of each. -/
import Derived.Test.YtpkoidbenojkmaaStoreOk0
namespace Go.Proofs.Ytpkoidbenojkmaa
open Go.RowKit Go.Joins

/-- No version is too large to be read. -/
def Small (vs : List V) : Prop := ∀ v ∈ vs, v.ts.length ≤ 1048576 ∧ v.s.size ≤ 9223372036854775807
theorem slotB_none {k : Nat} {v : V} (h : noneC v.k v.t v.u v.ts.length v.s v.g = true) : slotB k v = true := by unfold slotB; rw [h]; rfl
theorem slotB_key {k : Nat} {v : V} (h : noneC v.k v.t v.u v.ts.length v.s v.g = false) (hk : ¬ v.k = k) : slotB k v = false := by unfold slotB; rw [h, decide_eq_false hk]; rfl
theorem slotB_ver {k : Nat} {v : V} (h : noneC v.k v.t v.u v.ts.length v.s v.g = false) (hk : v.k = k) : slotB k v = verB v.k v.t v.u v.ts v.s v.g := by unfold slotB; rw [h, decide_eq_true hk]; simp
theorem slotB_bad {k : Nat} {v : V} (h : noneC v.k v.t v.u v.ts.length v.s v.g = false) (hb : verB v.k v.t v.u v.ts v.s v.g = false) : slotB k v = false := by unfold slotB; rw [h, hb]; simp

end Go.Proofs.Ytpkoidbenojkmaa
