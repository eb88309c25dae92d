/- Contracts of the making of an empty store, in the program and in the model. No condition. -/
import Derived.Test.YtgofeljmpkhkbaaStores2
namespace Go.Proofs.Ytgofeljmpkhkbaa
open Go.RowKit Go.Joins

/-- No version. -/
def v0 : V := ⟨0, 0, 0, none, 0, [], ⟨#[]⟩, false⟩
abbrev zero24 : Array Value := #[.int .i64 0, .int .i64 0, .int .i64 0, .slice none 0 0, .string ⟨#[]⟩, .bool false, .int .i64 0, .int .i64 0, .int .i64 0, .slice none 0 0, .string ⟨#[]⟩, .bool false, .int .i64 0, .int .i64 0, .int .i64 0, .slice none 0 0, .string ⟨#[]⟩, .bool false, .int .i64 0, .int .i64 0, .int .i64 0, .slice none 0 0, .string ⟨#[]⟩, .bool false]
theorem zero24_at : ∀ (i : Nat) (v : V), [v0, v0, v0, v0][i]? = some v → VerAt zero24 i v := by
  intro i v h
  match i with
  | 0 => simp at h; subst h; exact ⟨rfl, rfl, rfl, rfl, rfl, rfl⟩
  | 1 => simp at h; subst h; exact ⟨rfl, rfl, rfl, rfl, rfl, rfl⟩
  | 2 => simp at h; subst h; exact ⟨rfl, rfl, rfl, rfl, rfl, rfl⟩
  | 3 => simp at h; subst h; exact ⟨rfl, rfl, rfl, rfl, rfl, rfl⟩
  | n + 4 => simp at h
theorem v0_mem {v : V} {i : Nat} (h : [v0, v0, v0, v0][i]? = some v) : v = v0 := by
  have := List.mem_of_getElem? h
  simpa using this
theorem zero24_vg {w : World} {g : Nat} (h : Blk w g 32 zero24) : Vg w w.heap.size (some ⟨g, 0, none⟩) [v0, v0, v0, v0] :=
  .inr ⟨g, 0, rfl, h.inside, fun i v hi => by
    obtain ⟨h0, h1, h2, h3, h4, h5⟩ := zero24_at i v hi
    refine ⟨⟨?_, ?_, ?_, ?_, ?_, ?_⟩, ?_⟩
    · rw [Nat.zero_add, h.at]; exact h0
    · rw [Nat.zero_add, h.at]; exact h1
    · rw [Nat.zero_add, h.at]; exact h2
    · rw [Nat.zero_add, h.at]; exact h3
    · rw [Nat.zero_add, h.at]; exact h4
    · rw [Nat.zero_add, h.at]; exact h5
    · rw [v0_mem hi]; exact .inl rfl⟩
theorem like0 : Like [v0, v0, v0, v0] [v0, v0, v0, v0] := fun i v v' h h' => by
  rw [v0_mem h, v0_mem h']
  exact ⟨rfl, rfl, rfl, rfl, rfl, rfl⟩
/-- What StoreNew leaves. -/
def NewSt (w : World) (e : Ending) (w' : World) : Prop :=
  ∃ g : Nat, e = .returned (.agg #[.slice (some ⟨g, 0, none⟩) 4 4]) ∧ w.heap.size ≤ g ∧ Blk w' g 32 zero24 ∧ Below w.heap.size w w'
set_option maxRecDepth 100000 in
set_option maxHeartbeats 1000000 in
theorem implStoreNew_any (w : World) : Calls Try.prog 20 #[] w (NewSt w) := by
  have hmk : ∀ W : World, (Instr.makeSlice 23 (.int .i64 4) (.int .i64 4)).run Try.prog W = .ok (.slice (some ⟨W.heap.size, 0, none⟩) 4 4) (W.alloc (.cells zero24 32)) := fun _ => by kernel_rfl
  go_enter Try.func20, Try.ntmps20
  go_wp2
  refine bodyPost_ret (v := .agg #[.slice (some ⟨w.heap.size + 1, 0, none⟩) 4 4]) (by simp [results, Try.results20, go_sem]) rfl ?_
  have B0 := Blk.made (w.alloc (.cells #[.slice (some ⟨w.heap.size + 1, 0, none⟩) 4 4] 25)) 32 zero24
  simp only [World.size_alloc] at B0
  exact ⟨w.heap.size + 1, rfl, Nat.le_succ _, B0, below_alloc2 _ _ _⟩
set_option maxRecDepth 100000 in
set_option maxHeartbeats 1000000 in
theorem l2New_any (w : World) : Calls Try.prog 63 #[] w (NewSt w) := by
  have hmk : ∀ W : World, (Instr.makeSlice 23 (.int .i64 4) (.int .i64 4)).run Try.prog W = .ok (.slice (some ⟨W.heap.size, 0, none⟩) 4 4) (W.alloc (.cells zero24 32)) := fun _ => by kernel_rfl
  go_enter Try.func63, Try.ntmps63
  go_wp2
  refine bodyPost_ret (v := .agg #[.slice (some ⟨w.heap.size + 1, 0, none⟩) 4 4]) (by simp [results, Try.results63, go_sem]) rfl ?_
  have B0 := Blk.made (w.alloc (.cells #[.slice (some ⟨w.heap.size + 1, 0, none⟩) 4 4] 25)) 32 zero24
  simp only [World.size_alloc] at B0
  exact ⟨w.heap.size + 1, rfl, Nat.le_succ _, B0, below_alloc2 _ _ _⟩
end Go.Proofs.Ytgofeljmpkhkbaa
