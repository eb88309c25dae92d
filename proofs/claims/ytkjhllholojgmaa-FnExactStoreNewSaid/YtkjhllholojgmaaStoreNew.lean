/- Contracts of StoreNew, in the program and in the model, and of the laws' marks on a store without causes. No condition. -/
import Derived.Test.YtkjhllholojgmaaMarkVers
namespace Go.Proofs.Ytkjhllholojgmaa
open Go.RowKit Go.Joins

/-- No version. -/
def v0 : V := ⟨0, 0, 0, none, 0, [], ⟨#[]⟩, false⟩
abbrev zero24 : Array Value := #[.int .i64 0, .int .i64 0, .int .i64 0, .slice none 0 0, .string ⟨#[]⟩, .bool false, .int .i64 0, .int .i64 0, .int .i64 0, .slice none 0 0, .string ⟨#[]⟩, .bool false, .int .i64 0, .int .i64 0, .int .i64 0, .slice none 0 0, .string ⟨#[]⟩, .bool false, .int .i64 0, .int .i64 0, .int .i64 0, .slice none 0 0, .string ⟨#[]⟩, .bool false]
theorem zero24_at : ∀ (i : Nat) (v : V), [v0, v0, v0, v0][i]? = some v → VerAt zero24 i v := by
  intro i v h
  match i with
  | 0 => simp at h; subst h; exact ⟨rfl, rfl, rfl, rfl, rfl, rfl⟩
  | 1 => simp at h; subst h; exact ⟨rfl, rfl, rfl, rfl, rfl, rfl⟩
  | 2 => simp at h; subst h; exact ⟨rfl, rfl, rfl, rfl, rfl, rfl⟩
  | 3 => simp at h; subst h; exact ⟨rfl, rfl, rfl, rfl, rfl, rfl⟩
  | n + 4 => simp at h
theorem v0_mem {v : V} {i : Nat} (h : [v0, v0, v0, v0][i]? = some v) : v = v0 := by
  have := List.mem_of_getElem? h
  simpa using this
theorem zero24_vg {w : World} {g : Nat} (h : Blk w g 35 zero24) : Vg w w.heap.size (some ⟨g, 0, none⟩) [v0, v0, v0, v0] :=
  .inr ⟨g, 0, rfl, h.inside, fun i v hi => by
    obtain ⟨h0, h1, h2, h3, h4, h5⟩ := zero24_at i v hi
    refine ⟨⟨?_, ?_, ?_, ?_, ?_, ?_⟩, ?_⟩
    · rw [Nat.zero_add, h.at]; exact h0
    · rw [Nat.zero_add, h.at]; exact h1
    · rw [Nat.zero_add, h.at]; exact h2
    · rw [Nat.zero_add, h.at]; exact h3
    · rw [Nat.zero_add, h.at]; exact h4
    · rw [Nat.zero_add, h.at]; exact h5
    · rw [v0_mem hi]; exact .inl rfl⟩
theorem like0 : Like [v0, v0, v0, v0] [v0, v0, v0, v0] := fun i v v' h h' => by
  rw [v0_mem h, v0_mem h']
  exact ⟨rfl, rfl, rfl, rfl, rfl, rfl⟩
/-- What StoreNew leaves. -/
def NewSt (w : World) (e : Ending) (w' : World) : Prop :=
  ∃ g : Nat, e = .returned (.agg #[.slice (some ⟨g, 0, none⟩) 4 4]) ∧ w.heap.size ≤ g ∧ Blk w' g 35 zero24 ∧ Below w.heap.size w w'
theorem eqStore_new (g g' : Nat) (w : World) (h : Blk w g 35 zero24) (h' : Blk w g' 35 zero24) :
    Calls Try.prog 27 #[.agg #[.slice (some ⟨g, 0, none⟩) 4 4], .agg #[.slice (some ⟨g', 0, none⟩) 4 4]] w fun e w' => e = .returned (.bool true) ∧ Below w.heap.size w w' :=
  eqStore_same _ _ 4 4 4 [v0, v0, v0, v0] [v0, v0, v0, v0] w (by omega) rfl rfl like0 (fun v hv => by
    have : v = v0 := by simpa using hv
    rw [this]; simp [v0]) (zero24_vg h) (zero24_vg h')

set_option maxRecDepth 100000 in
set_option maxHeartbeats 1000000 in
theorem implStoreNew_any (w : World) : Calls Try.prog 16 #[] w (NewSt w) := by
  have hmk : ∀ W : World, (Instr.makeSlice 23 (.int .i64 4) (.int .i64 4)).run Try.prog W = .ok (.slice (some ⟨W.heap.size, 0, none⟩) 4 4) (W.alloc (.cells zero24 35)) := fun _ => by kernel_rfl
  go_enter Try.func16, Try.ntmps16
  go_wp2
  refine bodyPost_ret (v := .agg #[.slice (some ⟨w.heap.size + 1, 0, none⟩) 4 4]) (by simp [results, Try.results16, go_sem]) rfl ?_
  have B0 := Blk.made (w.alloc (.cells #[.slice (some ⟨w.heap.size + 1, 0, none⟩) 4 4] 25)) 35 zero24
  simp only [World.size_alloc] at B0
  exact ⟨w.heap.size + 1, rfl, Nat.le_succ _, B0, below_alloc2 _ _ _⟩
set_option maxRecDepth 100000 in
set_option maxHeartbeats 1000000 in
theorem l2New_any (w : World) : Calls Try.prog 65 #[] w (NewSt w) := by
  have hmk : ∀ W : World, (Instr.makeSlice 23 (.int .i64 4) (.int .i64 4)).run Try.prog W = .ok (.slice (some ⟨W.heap.size, 0, none⟩) 4 4) (W.alloc (.cells zero24 35)) := fun _ => by kernel_rfl
  go_enter Try.func65, Try.ntmps65
  go_wp2
  refine bodyPost_ret (v := .agg #[.slice (some ⟨w.heap.size + 1, 0, none⟩) 4 4]) (by simp [results, Try.results65, go_sem]) rfl ?_
  have B0 := Blk.made (w.alloc (.cells #[.slice (some ⟨w.heap.size + 1, 0, none⟩) 4 4] 25)) 35 zero24
  simp only [World.size_alloc] at B0
  exact ⟨w.heap.size + 1, rfl, Nat.le_succ _, B0, below_alloc2 _ _ _⟩
set_option maxRecDepth 100000 in
set_option maxHeartbeats 1000000 in
theorem specStoreNew_any (w : World) : Calls Try.prog 28 #[] w (NewSt w) := by
  have S0 := (Inv.start w).box 25 #[.slice none 0 0]
  go_enter Try.func28, Try.ntmps28
  go_wp2_with fail
  refine (l2New_any _).mono ?_
  rintro e w1 ⟨g, rfl, hg, hB, hb1⟩
  have S1 := S0.on hb1
  have q1 := (S1.nth 0 rfl).one
  have hL := S1.below
  simp at hg
  clear S0 S1
  go_wp2
  refine bodyPost_ret (v := .agg #[.slice (some ⟨g, 0, none⟩) 4 4]) (by simp [results, Try.results28, go_sem, q1]) rfl ?_
  exact ⟨g, rfl, by omega, hB.aside (by simp; omega) _, hL.setCell (by simp) _⟩
set_option maxHeartbeats 1000000 in
theorem markStore_bare (G c : Nat) (cur : Array Value) (w : World) (hB : Blk w G 35 cur) (hs : cur.size = 24) (hbare : ∀ j, j < 4 → cur[j * 6 + 3]? = some (.slice none 0 0)) :
    Calls Try.prog 29 #[.agg #[.slice (some ⟨G, 0, none⟩) 4 c], .int .i64 1] w (MarkedVS w G 4 1) := by
  have L0 := below_alloc1 w (.cells #[.slice (some ⟨G, 0, none⟩) 4 c] 25)
  have HBA := hide hbare
  clear hbare
  go_enter Try.func29, Try.ntmps29
  go_wp2_with fail
  refine (markVerS_bare G c 4 cur 1 _ (hB.on L0) hs (by omega) (by omega) (by omega) HBA.out).mono ?_
  rintro e w1 ⟨rfl, hm, hG⟩
  have G0 := (World.grownBy_alloc w (.cells #[.slice (some ⟨G, 0, none⟩) 4 c] 25) (some G)).trans hG
  have HM := hide hm
  clear hm
  go_wp2
  go_ret
  exact ⟨rfl, HM.out, G0⟩
set_option maxHeartbeats 1000000 in
theorem heldStore_bare (G c : Nat) (cur : Array Value) (w : World) (hB : Blk w G 35 cur) (hm : ∀ j, j < 4 → VerAt cur j (markV 1 j 0)) :
    Calls Try.prog 30 #[.agg #[.slice (some ⟨G, 0, none⟩) 4 c], .int .i64 1] w fun e w' => e = .returned (.int .i64 21) ∧ Below w.heap.size w w' := by
  have L0 := below_alloc1 w (.cells #[.slice (some ⟨G, 0, none⟩) 4 c] 25)
  have HM := hide hm
  clear hm
  go_enter Try.func30, Try.ntmps30
  go_wp2_with fail
  refine (heldVerS_bare G c 4 cur 1 _ (hB.on L0) (by omega) (by omega) (by omega) HM.out).mono ?_
  rintro e w1 ⟨rfl, hb1⟩
  have hl := L0.trans (hb1.mono L0.size)
  go_wp2
  go_ret
  exact ⟨rfl, hl⟩
end Go.Proofs.Ytkjhllholojgmaa
