/- Versions that came in: each can be read. -/
import Derived.Test.YtoechhbjfejmjaaDoorLift0
namespace Go.Proofs.YtoechhbjfejmjaaDoor
open Go.ChangeShapes Go.WideShapes Go.ChangeAt Go.RowKit Go.Joins

set_option maxRecDepth 100000 in
/-- The cell of a vector of tags that came in. -/
theorem cells_past {H : Type} {enc : TypeId × Value → H} {W : World} {fuel : Nat} {cs : List Value} {x : DataW H × List MemPlace}
    (h : DataW.trod enc Tryd.prog W 0 (fun _ => true) true fuel 26 cs = some x) :
    ∃ (a : Option Addr) (cap : Nat) (ts : List (Int × Int)), cs = [.slice a ts.length cap] ∧ Tg W W.heap.size a ts ∧ ts.length ≤ 9223372036854775807 := by
  obtain ⟨xs, n, _, _, hsz, hlen, hg⟩ := DataW.trod_struct Tryd.underlying26 h
  have hc : Tryd.prog.cellsOf 26 = 1 := by kernel_rfl
  have hk : Tryd.prog.cellsOf 24 = 1 := by kernel_rfl
  rw [hc] at hsz
  match cs, hsz with
  | [c0], _ =>
    have h0 := hg 0 _ rfl
    simp [hk] at h0
    match xs, hlen with
    | [y0], _ =>
      simp at h0
      obtain ⟨a, cap, ts, e, ht, hl⟩ := read_tags h0
      exact ⟨a, cap, ts, e, ht, hl⟩
set_option maxRecDepth 100000 in
/-- The cells of a version that came in. -/
theorem cells_ver {H : Type} {enc : TypeId × Value → H} {W : World} {fuel : Nat} {cs : List Value} {x : DataW H × List MemPlace}
    (h : DataW.trod enc Tryd.prog W 0 (fun _ => true) true fuel 28 cs = some x) :
    ∃ (k t u : Int) (a : Option Addr) (cap : Nat) (ts : List (Int × Int)) (s : ByteArray) (g : Bool), cs = [.int .i64 k, .int .i64 t, .int .i64 u, .slice a ts.length cap, .string s, .bool g] ∧ Tg W W.heap.size a ts ∧ ts.length ≤ 9223372036854775807 ∧ s.size ≤ maxLen := by
  obtain ⟨xs, n, _, _, hsz, hlen, hg⟩ := DataW.trod_struct Tryd.underlying28 h
  have hc : Tryd.prog.cellsOf 28 = 6 := by kernel_rfl
  have k1 : Tryd.prog.cellsOf 3 = 1 := by kernel_rfl
  have k2 : Tryd.prog.cellsOf 23 = 2 := by kernel_rfl
  have k3 : Tryd.prog.cellsOf 26 = 1 := by kernel_rfl
  have k4 : Tryd.prog.cellsOf 9 = 1 := by kernel_rfl
  have k5 : Tryd.prog.cellsOf 4 = 1 := by kernel_rfl
  rw [hc] at hsz
  match cs, hsz with
  | [c0, c1, c2, c3, c4, c5], _ =>
    have h0 := hg 0 _ rfl
    have h1 := hg 1 _ rfl
    have h2 := hg 2 _ rfl
    have h3 := hg 3 _ rfl
    have h4 := hg 4 _ rfl
    simp [k1, k2, k3, k4, k5] at h0 h1 h2 h3 h4
    match xs, hlen with
    | [y0, y1, y2, y3, y4], _ =>
      simp at h0 h1 h2 h3 h4
      obtain ⟨k, e0, _, _⟩ := DataW.trod_int Tryd.underlying3 h0
      obtain ⟨t, u, e1⟩ := cells_tag h1
      obtain ⟨a, cap, ts, e2, ht, hl⟩ := cells_past h2
      obtain ⟨s, e3, _, hs⟩ := DataW.trod_string Tryd.underlying9 h3
      obtain ⟨g, e4, _⟩ := DataW.trod_bool Tryd.underlying4 h4
      simp at e0 e1 e2 e3 e4
      obtain ⟨e1, e1'⟩ := e1
      subst e0 e1 e1' e2 e3 e4
      exact ⟨k, t, u, a, cap, ts, s, g, rfl, ht, hl, hs⟩
set_option maxRecDepth 100000 in
/-- A version that came in. -/
theorem read_ver {H : Type} {enc : TypeId × Value → H} {W : World} {base : Nat} {v : Value} {d : DataW H} {p : List MemPlace}
    (hv : Value.okWide Tryd.prog W .any base 28 v) (h : DataW.Trod enc Tryd.prog W 0 (fun _ => true) true 28 v d p) :
    ∃ (k t u : Int) (a : Option Addr) (cap : Nat) (ts : List (Int × Int)) (s : ByteArray) (g : Bool), v = .agg #[.int .i64 k, .int .i64 t, .int .i64 u, .slice a ts.length cap, .string s, .bool g] ∧ Tg W W.heap.size a ts ∧ ts.length ≤ 9223372036854775807 ∧ s.size ≤ maxLen := by
  obtain ⟨cs, rfl, hsz⟩ := okWide_struct Tryd.underlying28 hv
  obtain ⟨fuel, hf⟩ := h
  obtain ⟨l⟩ := cs
  obtain ⟨k, t, u, a, cap, ts, s, g, e, ht, hl, hs⟩ := cells_ver hf
  simp [Value.cells] at e
  exact ⟨k, t, u, a, cap, ts, s, g, by rw [e], ht, hl, hs⟩
end Go.Proofs.YtoechhbjfejmjaaDoor
