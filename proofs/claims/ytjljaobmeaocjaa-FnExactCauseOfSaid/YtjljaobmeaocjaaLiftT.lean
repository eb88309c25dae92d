/- A tag that came in: its numbers are such as an int can hold. -/
import Derived.Test.YtjljaobmeaocjaaLiftD
import Derived.Test.YtjljaobmeaocjaaHistMaps
namespace Go.Proofs.Ytjljaobmeaocjaa
open Go.ChangeShapes Go.WideShapes Go.ChangeAt Go.RowKit Go.Joins

theorem wf_range {n : Int} (h : (Lit.int .i64 n).wf = true) : -9223372036854775808 ≤ n ∧ n ≤ 9223372036854775807 := by
  have h' : (decide (IntKind.i64.min ≤ n) && decide (n ≤ IntKind.i64.max)) = true := h
  rw [Bool.and_eq_true] at h'
  have h0 : IntKind.i64.min = -9223372036854775808 := by decide +kernel
  have h1 : IntKind.i64.max = 9223372036854775807 := by decide +kernel
  have h2 := of_decide_eq_true h'.1
  have h3 := of_decide_eq_true h'.2
  rw [h0] at h2
  rw [h1] at h3
  exact ⟨h2, h3⟩
set_option maxRecDepth 100000 in
theorem read_tagw {H : Type} {enc : TypeId × Value → H} {W : World} {base : Nat} {v : Value} {d : DataW H} {p : List MemPlace}
    (hv : Value.okWide Try.prog W .any base 40 v) (h : DataW.Trod enc Try.prog W 0 (fun _ => true) true 40 v d p) :
    ∃ t u : Int, v = .agg #[.int .i64 t, .int .i64 u] ∧ inT t u = true := by
  obtain ⟨c0, c1, y0, y1, m, rfl, rfl, rfl, hy0, hy1⟩ := open_agg2 Try.underlying40 (by kernel_rfl) (by kernel_rfl) hv h
  obtain ⟨a, e0, rfl, wa⟩ := DataW.trod_int Try.underlying3 hy0
  obtain ⟨b, e1, rfl, wb⟩ := DataW.trod_int Try.underlying3 hy1
  simp at e0 e1
  subst e0 e1
  have h0 := wf_range wa
  have h1 := wf_range wb
  exact ⟨a, b, rfl, decide_eq_true (by omega)⟩
end Go.Proofs.Ytjljaobmeaocjaa
