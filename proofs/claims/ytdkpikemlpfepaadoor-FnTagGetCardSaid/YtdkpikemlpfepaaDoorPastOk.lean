/- Contracts of the functions on vectors of tags: whether one is valid, in the program and in the model. Condition: at most 1048576 tags. -/
import Derived.Test.YtdkpikemlpfepaaDoorPasts
namespace Go.Proofs.YtdkpikemlpfepaaDoor
open Go.RowKit Go.Joins

/-- Whether these tags are a valid vector. -/
def pastB (ts : List (Int × Int)) : Bool := decide (ts.length = 4) && ts.all fun x => okB x.1 x.2
theorem pastB_len {ts : List (Int × Int)} (h : ¬ ts.length = 4) : pastB ts = false := by unfold pastB; simp [h]
theorem pastB_bad {ts : List (Int × Int)} {k : Nat} {x : Int × Int} (hx : ts[k]? = some x) (h : okB x.1 x.2 = false) : pastB ts = false := by
  unfold pastB
  have : (ts.all fun x => okB x.1 x.2) = false := by
    rw [List.all_eq_false]
    exact ⟨x, List.mem_of_getElem? hx, by simp [h]⟩
  simp [this]
theorem pastB_ok {ts : List (Int × Int)} (hl : ts.length = 4) (h : ∀ (k : Nat) (x : Int × Int), ts[k]? = some x → okB x.1 x.2 = true) : pastB ts = true := by
  unfold pastB
  have : (ts.all fun x => okB x.1 x.2) = true := by
    rw [List.all_eq_true]
    intro x hx
    obtain ⟨k, hk⟩ := List.getElem?_of_mem hx
    exact h k x hk
  simp [this, hl]

/-- The eight cells of four tags. -/
def cells4 (ts : List (Int × Int)) : Array Value := (ts.flatMap fun x => [Value.int .i64 x.1, Value.int .i64 x.2]).toArray
abbrev zero8 : Array Value := #[.int .i64 0, .int .i64 0, .int .i64 0, .int .i64 0, .int .i64 0, .int .i64 0, .int .i64 0, .int .i64 0]

theorem Blk.eight {w : World} {g : Nat} {T : TypeId} {a b c d e f u v : Value} (h : Blk w g T #[a, b, c, d, e, f, u, v]) :
    (w.cell? ⟨g, 0, none⟩ = some a ∧ w.cell? ⟨g, 1, none⟩ = some b ∧ w.cell? ⟨g, 2, none⟩ = some c ∧ w.cell? ⟨g, 3, none⟩ = some d ∧ w.cell? ⟨g, 4, none⟩ = some e ∧ w.cell? ⟨g, 5, none⟩ = some f ∧ w.cell? ⟨g, 6, none⟩ = some u ∧ w.cell? ⟨g, 7, none⟩ = some v) ∧
    (w.frozen? ⟨g, 0, none⟩ = false ∧ w.frozen? ⟨g, 1, none⟩ = false ∧ w.frozen? ⟨g, 2, none⟩ = false ∧ w.frozen? ⟨g, 3, none⟩ = false ∧ w.frozen? ⟨g, 4, none⟩ = false ∧ w.frozen? ⟨g, 5, none⟩ = false ∧ w.frozen? ⟨g, 6, none⟩ = false ∧ w.frozen? ⟨g, 7, none⟩ = false) :=
  ⟨⟨h.at 0, h.at 1, h.at 2, h.at 3, h.at 4, h.at 5, h.at 6, h.at 7⟩, h.loose 0, h.loose 1, h.loose 2, h.loose 3, h.loose 4, h.loose 5, h.loose 6, h.loose 7⟩
theorem below_set8 {w w' : World} {n g : Nat} (h : Below n w w') (hg : n ≤ g) (a b c d e f u v : Value) :
    Below n w ((((((((w'.setCell ⟨g, 0, none⟩ a).setCell ⟨g, 1, none⟩ b).setCell ⟨g, 2, none⟩ c).setCell ⟨g, 3, none⟩ d).setCell ⟨g, 4, none⟩ e).setCell ⟨g, 5, none⟩ f).setCell ⟨g, 6, none⟩ u).setCell ⟨g, 7, none⟩ v) :=
  (((((((h.setCell hg a).setCell hg b).setCell hg c).setCell hg d).setCell hg e).setCell hg f).setCell hg u).setCell hg v
/-- Eight cells that hold four tags are just these. -/
theorem cur4 {cur : Array Value} {ts : List (Int × Int)} (hs : cur.size = 8) (hl : ts.length = 4) (h : ∀ j x, ts[j]? = some x → TagAt cur j x) :
    ∃ x0 x1 x2 x3 : Int × Int, ts = [x0, x1, x2, x3] ∧ cur = #[.int .i64 x0.1, .int .i64 x0.2, .int .i64 x1.1, .int .i64 x1.2, .int .i64 x2.1, .int .i64 x2.2, .int .i64 x3.1, .int .i64 x3.2] := by
  match ts, hl with
  | [x0, x1, x2, x3], _ =>
    refine ⟨x0, x1, x2, x3, rfl, ?_⟩
    obtain ⟨a0, a1⟩ := h 0 x0 rfl
    obtain ⟨b0, b1⟩ := h 1 x1 rfl
    obtain ⟨c0, c1⟩ := h 2 x2 rfl
    obtain ⟨d0, d1⟩ := h 3 x3 rfl
    apply Array.ext_getElem?
    intro i
    match i with
    | 0 => simpa using a0
    | 1 => simpa using a1
    | 2 => simpa using b0
    | 3 => simpa using b1
    | 4 => simpa using c0
    | 5 => simpa using c1
    | 6 => simpa using d0
    | 7 => simpa using d1
    | n + 8 => rw [Array.getElem?_eq_none (by omega), Array.getElem?_eq_none (by simp)]

/-- What vectorOf answers. -/
def VecOf (w : World) (ts : List (Int × Int)) (e : Ending) (w' : World) : Prop :=
  (pastB ts = true → e = .returned (.tuple #[.agg (cells4 ts), .bool true])) ∧ (pastB ts = false → e = .returned (.tuple #[.agg zero8, .bool false])) ∧ Below w.heap.size w w'

theorem cells4_eq (x0 x1 x2 x3 : Int × Int) : cells4 [x0, x1, x2, x3] = #[.int .i64 x0.1, .int .i64 x0.2, .int .i64 x1.1, .int .i64 x1.2, .int .i64 x2.1, .int .i64 x2.2, .int .i64 x3.1, .int .i64 x3.2] := by simp [cells4]
theorem four_of {ts : List (Int × Int)} (h : pastB ts = true) : ∃ x0 x1 x2 x3 : Int × Int, ts = [x0, x1, x2, x3] := by
  unfold pastB at h
  simp at h
  match ts, h.1 with
  | [x0, x1, x2, x3], _ => exact ⟨x0, x1, x2, x3, rfl⟩

end Go.Proofs.YtdkpikemlpfepaaDoor
