/- From what a row lists of the library's variables, and the shape of the world, to what the contracts ask. Condition: the list as the rows of chapter 1 have it. -/
import Derived.Test.YtdkpikemlpfepaaDoorLaidTabs
import Derived.Test.YtdkpikemlpfepaaDoorCutLay
import Derived.LaidMore
import Derived.Stop.Joined
import Derived.Stop.LaidErr
namespace Go.Proofs.YtdkpikemlpfepaaDoor
open Go.RowKit Go.Joins

theorem cell_lt {w : World} {a : Addr} {v : Value} (h : w.cell? a = some v) : a.block < w.heap.size := by
  rcases Nat.lt_or_ge a.block w.heap.size with h' | h'
  · exact h'
  · simp [World.cell?, Array.getElem?_eq_none h'] at h
/-- What the library's variables hold. -/
structure LibOk (w : World) : Prop where
  pow : PowTab w
  syn : ∃ ev, w.cell? ⟨2, 0, none⟩ = some ev ∧ (ev = .nilIface ∨ ∃ te pe, ev = .iface te pe)
  rng : ∃ ev, w.cell? ⟨3, 0, none⟩ = some ev ∧ (ev = .nilIface ∨ ∃ te pe, ev = .iface te pe)
  max : ∃ m : Int, w.cell? ⟨0, 0, none⟩ = some (.int .i64 m)
theorem LibOk.on {w w' : World} (h : LibOk w) (hb : Below w.heap.size w w') : LibOk w' := by
  obtain ⟨ev, h1, h2⟩ := h.syn
  obtain ⟨er, h3, h4⟩ := h.rng
  obtain ⟨m, h5⟩ := h.max
  exact ⟨h.pow.on hb, ⟨ev, (hb.cell (cell_lt h1)).trans h1, h2⟩, ⟨er, (hb.cell (cell_lt h3)).trans h3, h4⟩, ⟨m, (hb.cell (cell_lt h5)).trans h5⟩⟩
theorem err_cells : Tryd.prog.cellsOf 96 = 1 := by kernel_rfl
theorem str_cells : Tryd.prog.cellsOf 9 = 1 := by kernel_rfl
theorem err_star : "*" ++ "errors.errorString" = "*errors.errorString" := by decide
theorem err_row (u : TypeId) (h : Tryd.prog.typeName? 3 u = some "*errors.errorString") : u = 94 :=
  typeName_ptr_named (nm := "errors.errorString") (by rw [err_star]; kernel_rfl) (by kernel_rfl) (by decide) u (by rw [err_star]; exact h)
theorem libOk_of {rest0 : List (String × DataW Unit)} {w : World} (hL : laidMet Tryd.prog (("internal/strconv.uint64pow10", Rows.laid_internal_strconv_uint64pow10) :: ("strconv.ErrRange", Rows.laid_strconv_ErrRange) :: ("strconv.ErrSyntax", Rows.laid_strconv_ErrSyntax) :: rest0) w) (hsh : w.ShapedOpen Tryd.prog) : LibOk w := by
  have hg1 : Tryd.prog.globalNamed "strconv.ErrRange" = some 3 := by kernel_rfl
  have hg2 : Tryd.prog.globalNamed "strconv.ErrSyntax" = some 2 := by kernel_rfl
  obtain ⟨a0, s0, hv0, -, -, -⟩ := laid_sentinel (laidMet.tail hL) hg1 (by kernel_rfl) Tryd.underlying56 err_row Tryd.underlying94 Tryd.underlying96 rfl rfl Tryd.underlying9 err_cells str_cells
  obtain ⟨a1, s1, hv1, -, -, -⟩ := laid_sentinel (laidMet.tail (laidMet.tail hL)) hg2 (by kernel_rfl) Tryd.underlying56 err_row Tryd.underlying94 Tryd.underlying96 rfl rfl Tryd.underlying9 err_cells str_cells
  exact ⟨powTab_of hL, ⟨_, (by have h0 := World.var?_cell hg2 hv1 0; simpa using h0), .inr ⟨_, _, rfl⟩⟩, ⟨_, (by have h0 := World.var?_cell hg1 hv0 0; simpa using h0), .inr ⟨_, _, rfl⟩⟩, cutL.s1_3 w hsh⟩
end Go.Proofs.YtdkpikemlpfepaaDoor
