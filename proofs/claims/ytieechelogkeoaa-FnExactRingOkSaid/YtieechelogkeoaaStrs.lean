/- Contracts of the laws' small functions on slices of texts and on rings: their size, their copy, whether two are the same. Condition: what is said of each. -/
import Derived.Test.YtieechelogkeoaaPasts
namespace Go.Proofs.Ytieechelogkeoaa
open Go.RowKit Go.Joins
attribute [local go_sem ↓] Go.wp_at_zero Go.wp_at_succ

/-- A slice that reads as these texts, in old memory (below block B). -/
def Sg (w : World) (B : Nat) (a : Option Addr) (ss : List ByteArray) : Prop :=
  ss = [] ∨ ∃ b off : Nat, a = some ⟨b, off, none⟩ ∧ b < B ∧ ∀ i s, ss[i]? = some s → w.cell? ⟨b, off + i, none⟩ = some (.string s)
theorem Sg.on {w w' : World} {B : Nat} {a : Option Addr} {ss : List ByteArray} (h : Sg w B a ss) (hb : Below B w w') : Sg w' B a ss := by
  rcases h with h | ⟨b, off, ha, hlt, hx⟩
  · exact .inl h
  · exact .inr ⟨b, off, ha, hlt, fun i x hi => (hb.cell (p := ⟨b, off + i, none⟩) hlt).trans (hx i x hi)⟩
theorem Sg.up {w : World} {B B' : Nat} {a : Option Addr} {ss : List ByteArray} (h : Sg w B a ss) (hB : B ≤ B') : Sg w B' a ss := by
  rcases h with h | ⟨b, off, ha, hb, hx⟩
  · exact .inl h
  · exact .inr ⟨b, off, ha, by omega, hx⟩
theorem Sg.of {w : World} {B g : Nat} {T : TypeId} {cur : Array Value} {ss : List ByteArray} (hb : Blk w g T cur) (hg : g < B) (h : ∀ (i : Nat) s, ss[i]? = some s → cur[i]? = some (.string s)) : Sg w B (some ⟨g, 0, none⟩) ss :=
  .inr ⟨g, 0, rfl, hg, fun i s hi => by rw [Nat.zero_add, hb.at]; exact h i s hi⟩
/-- How long these texts are together. -/
def totS (ss : List ByteArray) : Nat := (ss.map ByteArray.size).sum
theorem totS_step {ss : List ByteArray} {k : Nat} {s : ByteArray} (h : ss[k]? = some s) : totS (ss.take (k + 1)) = totS (ss.take k) + s.size := by
  unfold totS
  rw [List.take_add_one, h]
  simp
theorem totS_all (ss : List ByteArray) : totS (ss.take ss.length) = totS ss := by rw [List.take_length]
theorem totS_le (ss : List ByteArray) (k : Nat) : totS (ss.take k) ≤ totS ss := by
  have h : ss = ss.take k ++ ss.drop k := (List.take_append_drop k ss).symm
  have e : totS ss = totS (ss.take k) + totS (ss.drop k) := by
    unfold totS
    rw [← List.sum_append, ← List.map_append, ← h]
  omega
theorem totS_mem {ss : List ByteArray} {s : ByteArray} (h : s ∈ ss) : s.size ≤ totS ss := by
  obtain ⟨k, hk⟩ := List.getElem?_of_mem h
  have h1 := totS_step hk
  have h2 := totS_le ss (k + 1)
  omega
theorem string_info : (Try.prog.info? 9).map (fun i => (i.zero, i.size, i.bytes)) = some (some (.string ⟨#[]⟩), 1, 16) := by kernel_rfl

set_option maxRecDepth 100000 in
set_option maxHeartbeats 2000000 in
theorem szStringS_fits (a : Option Addr) (c : Nat) (ss : List ByteArray) (left : Int) (w : World) (h0 : left ≤ 1048576) (hf : (ss.length : Int) + totS ss ≤ left) (hv : Sg w w.heap.size a ss) :
    Calls Try.prog 40 #[.slice a ss.length c, .int .i64 left] w fun e w' => e = .returned (.int .i64 (left - ss.length - totS ss)) ∧ w = w' := by
  have HF := hide hf
  have HT : Hid (totS (ss.take ss.length) = totS ss) := totS_all ss
  generalize hnn : ss.length = n at *
  have HN := hide hnn
  have h1 : ¬ (left - (n : Int) < 0) := by omega
  have h2 : 0 ≤ left := by omega
  have h3 : (n : Int) ≤ left := by omega
  clear hnn hf
  go_enter Try.func40, Try.ntmps40
  go_wp2
  go_loop [1, 5] (fun r i => ∃ (k : Nat) (m : Int), k ≤ n ∧ i = .int .i64 (k : Int) ∧ r = .int .i64 m ∧ Hid (m = left - n - totS (ss.take k))) (fun _ i => n - (intOf i).toNat)
  case atStart => exact ⟨0, _, Nat.zero_le _, rfl, rfl, by unfold Hid totS; simp⟩
  case round =>
    obtain ⟨k, m, hk, rfl, rfl, hm⟩ := hrel
    by_cases hlt : k < n
    · rcases hv with e0 | ⟨b, off, rfl, hb, hx⟩
      · have := HN.out; subst e0; simp at this; omega
      · obtain ⟨s, hs⟩ : ∃ s, ss[k]? = some s := ⟨_, List.getElem?_eq_getElem (by have := HN.out; omega)⟩
        have c0 := hx k s hs
        have st := totS_step hs
        have le := totS_le ss (k + 1)
        have H2 : Hid (m - s.size = left - n - totS (ss.take (k + 1))) := by
          have := hm.out; unfold Hid; omega
        have h4 : (s.size : Int) ≤ m ∧ m ≤ 1048576 := by have := hm.out; have := HF.out; omega
        have h5 : ¬ (m - (s.size : Int) < 0) := by omega
        clear st le hx hs
        have i1 : (0 : Int) ≤ (k : Int) := by omega
        have i2 : (k : Int) < (n : Int) := by omega
        go_wp2
        exact ⟨⟨k + 1, _, by omega, by go_num, rfl, H2⟩, by simp [intOf]; omega⟩
    · have hkn : k = n := by omega
      subst hkn
      clear hlt
      go_wp2
      go_ret
      exact ⟨ret_int (by rw [hm.out, HT.out]), rfl⟩
set_option maxRecDepth 100000 in
set_option maxHeartbeats 2000000 in
theorem szStringS_not (a : Option Addr) (c : Nat) (ss : List ByteArray) (left : Int) (w : World) (h0 : left ≤ 1048576) (h00 : 0 ≤ left) (hl : ss.length ≤ 9223372036854775807) (hm0 : ∀ s ∈ ss, s.size ≤ 9223372036854775807) (hf : left < (ss.length : Int) + totS ss) (hv : Sg w w.heap.size a ss) :
    Calls Try.prog 40 #[.slice a ss.length c, .int .i64 left] w fun e w' => e = .returned (.int .i64 (-1)) ∧ w = w' := by
  have HF := hide hf
  have HM := hide hm0
  clear hm0
  have HT : Hid (totS (ss.take ss.length) = totS ss) := totS_all ss
  generalize hnn : ss.length = n at *
  have HN := hide hnn
  clear hnn hf
  by_cases h1 : left - (n : Int) < 0
  · go_enter Try.func40, Try.ntmps40
    go_wp2
    go_ret
    exact ⟨rfl, rfl⟩
  · have h3 : (n : Int) ≤ left := by omega
    go_enter Try.func40, Try.ntmps40
    go_wp2
    go_loop [1, 5] (fun r i => ∃ (k : Nat) (m : Int), k ≤ n ∧ i = .int .i64 (k : Int) ∧ r = .int .i64 m ∧ Hid (m = left - n - totS (ss.take k) ∧ 0 ≤ m)) (fun _ i => n - (intOf i).toNat)
    case atStart => exact ⟨0, _, Nat.zero_le _, rfl, rfl, by unfold Hid totS; simp; omega⟩
    case round =>
      obtain ⟨k, m, hk, rfl, rfl, hm⟩ := hrel
      by_cases hlt : k < n
      · rcases hv with e0 | ⟨b, off, rfl, hb, hx⟩
        · have := HN.out; subst e0; simp at this; omega
        · obtain ⟨s, hs⟩ : ∃ s, ss[k]? = some s := ⟨_, List.getElem?_eq_getElem (by have := HN.out; omega)⟩
          have c0 := hx k s hs
          have st := totS_step hs
          have hz := HM.out s (List.mem_of_getElem? hs)
          have h4 : 0 ≤ m ∧ m ≤ 1048576 := by have := hm.out; omega
          have H2 : Hid (m - s.size = left - n - totS (ss.take (k + 1))) := by
            have := hm.out; unfold Hid; omega
          clear st hx hs
          have i1 : (0 : Int) ≤ (k : Int) := by omega
          have i2 : (k : Int) < (n : Int) := by omega
          by_cases h5 : m - (s.size : Int) < 0
          · go_wp2
            go_ret
            exact ⟨rfl, rfl⟩
          · go_wp2
            exact ⟨⟨k + 1, _, by omega, by go_num, rfl, ⟨H2.out, by omega⟩⟩, by simp [intOf]; omega⟩
      · exfalso
        have hkn : k = n := by omega
        subst hkn
        have := hm.out
        have := HF.out
        have := HT.out
        omega
/-- What the copy of a slice of texts leaves. -/
def CopiedSS (w : World) (ss : List ByteArray) (e : Ending) (w' : World) : Prop :=
  ∃ (g : Nat) (cur : Array Value), e = .returned (.slice (some ⟨g, 0, none⟩) ss.length ss.length) ∧ w.heap.size ≤ g ∧ Blk w' g 9 cur ∧ (∀ (i : Nat) s, ss[i]? = some s → cur[i]? = some (.string s)) ∧ Below w.heap.size w w'
set_option maxRecDepth 100000 in
set_option maxHeartbeats 2000000 in
theorem toStringS_any (a : Option Addr) (c : Nat) (ss : List ByteArray) (w : World) (hn : ss.length ≤ 1048576) (hv : Sg w w.heap.size a ss) :
    Calls Try.prog 42 #[.slice a ss.length c] w (CopiedSS w ss) := by
  obtain ⟨i0, hi0, hz0, hz1, hz2⟩ := info_parts string_info
  have hmk : ∀ W : World, (Instr.makeSlice 40 (.int .i64 (ss.length : Int)) (.int .i64 (ss.length : Int))).run Try.prog W = .ok (.slice (some ⟨W.heap.size, 0, none⟩) ss.length ss.length) (W.alloc (.cells (madeCells (Value.string ⟨#[]⟩).cells (ss.length * 1)) 9)) := by
    intro W
    have hr := run_make (P := Try.prog) W 40 9 i0 _ Try.underlying40 hi0 hz0 .i64 .i64 (ss.length : Int) (ss.length : Int) (by omega) (by omega) (by rw [hz2]; omega) (by omega)
    rw [hz1] at hr
    simpa using hr
  simp only [Nat.mul_one] at hmk
  generalize hn' : ss.length = n at *
  have HN := hide hn'
  clear hn'
  have B0 := Blk.made w 9 (madeCells (Value.string ⟨#[]⟩).cells n)
  have L0 := below_alloc1 w (.cells (madeCells (Value.string ⟨#[]⟩).cells n) 9)
  have Z0 : (madeCells (Value.string ⟨#[]⟩).cells n).size = n := size_madeCells _ _
  go_enter Try.func42, Try.ntmps42
  go_wp2
  clear hmk hi0 hz0 hz1 hz2
  go_loopw [4] (fun i wr => ∃ (k : Nat) (cur : Array Value), k ≤ n ∧ i = .int .i64 (k : Int) ∧ Blk wr w.heap.size 9 cur ∧ cur.size = n ∧ Hid (∀ (j : Nat) s, j < k → ss[j]? = some s → cur[j]? = some (.string s)) ∧ Below w.heap.size w wr) (fun i _ => n - (intOf i).toNat)
  case atStart => exact ⟨0, _, Nat.zero_le _, rfl, B0, Z0, fun j s hj => absurd hj (by omega), L0⟩
  case round =>
    obtain ⟨k, cur, hk, rfl, hB, hsz, hcur, hL⟩ := hrel
    clear B0 L0 Z0
    by_cases hlt : k < n
    · rcases hv with e0 | ⟨b, off, rfl, hb, hx⟩
      · have := HN.out; subst e0; simp at this; omega
      · obtain ⟨s, hs⟩ : ∃ s, ss[k]? = some s := ⟨_, List.getElem?_eq_getElem (by have := HN.out; omega)⟩
        have c0 := (hL.cell (p := ⟨b, off + k, none⟩) hb).trans (hx k s hs)
        have hsk : k < cur.size := by omega
        have c1 := (hB.at k).trans (Array.getElem?_eq_getElem hsk)
        have f1 := hB.loose k
        have HB := hide (hB.put k (.string s))
        have HL := hide (hL.setCell (p := ⟨w.heap.size, k, none⟩) (Nat.le_refl _) (.string s))
        have HC : Hid (∀ (j : Nat) t, j < k + 1 → ss[j]? = some t → (cur.setIfInBounds k (.string s))[j]? = some (.string t)) := fun j t hj ht => by
          by_cases e : j = k
          · subst e
            rw [hs] at ht
            injection ht with ht
            subst ht
            exact Array.getElem?_setIfInBounds_self_of_lt hsk
          · rw [Array.getElem?_setIfInBounds_ne (fun e' => e e'.symm)]
            exact hcur.out j t (by omega) ht
        have HZ : Hid ((cur.setIfInBounds k (.string s)).size = n) := by unfold Hid; rw [Array.size_setIfInBounds]; exact hsz
        have i1 : (0 : Int) ≤ (k : Int) := by omega
        have i2 : (k : Int) < (n : Int) := by omega
        clear hx hs hcur hsz hB hL
        go_wp2
        exact ⟨⟨k + 1, _, by omega, by go_num, HB.out, HZ.out, HC, HL.out⟩, by simp [intOf]; omega⟩
    · have hkn : k = n := by omega
      subst hkn
      clear hlt
      have HB := hide hB
      have HL := hide hL
      clear hB hL
      go_wp2
      go_ret
      exact ⟨w.heap.size, cur, by rw [HN.out]; rfl, Nat.le_refl _, HB.out, fun i s hi => hcur.out i s (by have := (List.getElem?_eq_some_iff.1 hi).1; have := HN.out; omega) hi, HL.out⟩
set_option maxRecDepth 100000 in
set_option maxHeartbeats 2000000 in
theorem eqStringS_same (a a' : Option Addr) (c c' n : Nat) (ss : List ByteArray) (w : World) (hn : n ≤ 1048576) (hvn : ss.length = n) (hv : Sg w w.heap.size a ss) (hu : Sg w w.heap.size a' ss) :
    Calls Try.prog 44 #[.slice a n c, .slice a' n c'] w fun e w' => e = .returned (.bool true) ∧ Below w.heap.size w w' := by
  have HN := hide hvn
  clear hvn
  go_enter Try.func44, Try.ntmps44
  go_wp2
  go_loopw [5] (fun i wr => ∃ k : Nat, k ≤ n ∧ i = .int .i64 (k : Int) ∧ Below w.heap.size w wr) (fun i _ => n - (intOf i).toNat)
  case atStart => exact ⟨0, Nat.zero_le _, rfl, Below.refl _ _⟩
  case round =>
    obtain ⟨k, hk, rfl, hL⟩ := hrel
    by_cases hlt : k < n
    · rcases hv with e0 | ⟨b, off, rfl, hb, hx⟩
      · have := HN.out; subst e0; simp at this; omega
      · rcases hu with e0 | ⟨b', off', rfl, hb', hx'⟩
        · have := HN.out; subst e0; simp at this; omega
        · obtain ⟨s, hs⟩ : ∃ s, ss[k]? = some s := ⟨_, List.getElem?_eq_getElem (by have := HN.out; omega)⟩
          have Q1 := hide (hx k s hs)
          have Q2 := hide (hx' k s hs)
          have i1 : (0 : Int) ≤ (k : Int) := by omega
          have i2 : (k : Int) < (n : Int) := by omega
          clear hx hx' hs
          go_wp2_with fail
          refine wp_region_noPanic ?_
          refine wp_region_held_drew (S := (fun w' => w'.cell? ⟨b, off + k, none⟩ = some (.string s) ∧ w'.cell? ⟨b', off' + k, none⟩ = some (.string s) ∧ Below w.heap.size w w')) (by kernel_rfl) (by exact ⟨(hL.drew.cell (p := ⟨b, off + k, none⟩) hb).trans Q1.out, (hL.drew.cell (p := ⟨b', off' + k, none⟩) hb').trans Q2.out, hL.drew⟩) (fun hHeld => ?_)
          refine take_run 0 (some 17) (v := ?_) rfl rfl (by kernel_rfl) (by kernel_rfl) (by kernel_rfl) (fun _ _ _ h => h) (by rfl) ?_ hHeld ?_
          rotate_left
          · ((intro w hSw); (try dsimp only at hSw); go_simp <;> with_reducible rfl)
          simp only [Act.put, List.setIfInBounds_toArray, List.set_cons_zero, List.set_cons_succ]
          refine take_run 1 (some 18) (v := ?_) rfl rfl (by kernel_rfl) (by kernel_rfl) (by kernel_rfl) (fun _ _ _ h => h) (by rfl) ?_ hHeld ?_
          rotate_left
          · ((intro w hSw); (try dsimp only at hSw); go_simp <;> with_reducible rfl)
          simp only [Act.put, List.setIfInBounds_toArray, List.set_cons_zero, List.set_cons_succ]
          refine take_run 2 (some 19) (v := ?_) rfl rfl (by kernel_rfl) (by kernel_rfl) (by kernel_rfl) (fun _ _ _ h => h) (by rfl) ?_ hHeld ?_
          rotate_left
          · ((intro w hSw); (try dsimp only at hSw); go_simp <;> with_reducible rfl)
          simp only [Act.put, List.setIfInBounds_toArray, List.set_cons_zero, List.set_cons_succ]
          refine take_run 3 (some 20) (v := ?_) rfl rfl (by kernel_rfl) (by kernel_rfl) (by kernel_rfl) (fun _ _ _ h => h) (by rfl) ?_ hHeld ?_
          rotate_left
          · ((intro w hSw); (try dsimp only at hSw); go_simp <;> with_reducible rfl)
          simp only [Act.put, List.setIfInBounds_toArray, List.set_cons_zero, List.set_cons_succ]
          refine take_run 4 (some 21) (v := ?_) rfl rfl (by kernel_rfl) (by kernel_rfl) (by kernel_rfl) (fun _ _ _ h => h) (by rfl) ?_ hHeld ?_
          rotate_left
          · ((intro w hSw); (try dsimp only at hSw); go_simp <;> with_reducible rfl)
          simp only [Act.put, List.setIfInBounds_toArray, List.set_cons_zero, List.set_cons_succ]
          refine take_run 5 (some 22) (v := ?_) rfl rfl (by kernel_rfl) (by kernel_rfl) (by kernel_rfl) (fun _ _ _ h => h) (by rfl) ?_ hHeld ?_
          rotate_left
          · ((intro w hSw); (try dsimp only at hSw); go_simp <;> with_reducible rfl)
          simp only [Act.put, List.setIfInBounds_toArray, List.set_cons_zero, List.set_cons_succ]
          refine take_run 6 (some 23) (v := ?_) rfl rfl (by kernel_rfl) (by kernel_rfl) (by kernel_rfl) (fun _ _ _ h => h) (by rfl) ?_ hHeld ?_
          rotate_left
          · ((intro w hSw); (try dsimp only at hSw); go_simp <;> with_reducible rfl)
          simp only [Act.put, List.setIfInBounds_toArray, List.set_cons_zero, List.set_cons_succ]
          refine take_run 7 (some 24) (v := ?_) rfl rfl (by kernel_rfl) (by kernel_rfl) (by kernel_rfl) (fun _ _ _ h => h) (by rfl) ?_ hHeld ?_
          rotate_left
          · ((intro w hSw); (try dsimp only at hSw); go_simp <;> with_reducible rfl)
          simp only [Act.put, List.setIfInBounds_toArray, List.set_cons_zero, List.set_cons_succ]
          refine take_run 8 (some 25) (v := ?_) rfl rfl (by kernel_rfl) (by kernel_rfl) (by kernel_rfl) (fun _ _ _ h => h) (by rfl) ?_ hHeld ?_
          rotate_left
          · ((intro w hSw); (try dsimp only at hSw); go_simp <;> with_reducible rfl)
          simp only [Act.put, List.setIfInBounds_toArray, List.set_cons_zero, List.set_cons_succ]
          refine wpAnyH_done (by kernel_rfl) ?_ _
          refine NoPanic.normal ?_
          have hL2 := hHeld.2.2
          clear hHeld hL
          go_wp2
          exact ⟨⟨k + 1, by omega, by go_num, hL2⟩, by simp [intOf]; omega⟩
    · have hkn : k = n := by omega
      subst hkn
      clear hlt
      go_wp2
      go_ret
      exact ⟨rfl, hL⟩
set_option maxHeartbeats 1000000 in
theorem szRing_fits (a : Option Addr) (c : Nat) (ss : List ByteArray) (left : Int) (w : World) (h0 : left ≤ 1048576) (hf : (ss.length : Int) + totS ss ≤ left) (hv : Sg w w.heap.size a ss) :
    Calls Try.prog 17 #[.agg #[.slice a ss.length c], .int .i64 left] w fun e w' => e = .returned (.int .i64 (left - ss.length - totS ss)) ∧ Below w.heap.size w w' := by
  have L0 := below_alloc1 w (.cells #[.slice a ss.length c] 42)
  have h1 : ¬ (left - (ss.length : Int) - (totS ss : Int) < 0) := by omega
  go_enter Try.func17, Try.ntmps17
  go_wp2_with fail
  refine (szStringS_fits a c ss left _ h0 hf ((hv.on L0).up L0.size)).mono ?_
  rintro e w1 ⟨rfl, rfl⟩
  go_wp2
  go_ret
  exact ⟨rfl, L0⟩
set_option maxHeartbeats 1000000 in
theorem szRing_not (a : Option Addr) (c : Nat) (ss : List ByteArray) (left : Int) (w : World) (h0 : left ≤ 1048576) (h00 : 0 ≤ left) (hl : ss.length ≤ 9223372036854775807) (hm0 : ∀ s ∈ ss, s.size ≤ 9223372036854775807) (hf : left < (ss.length : Int) + totS ss) (hv : Sg w w.heap.size a ss) :
    Calls Try.prog 17 #[.agg #[.slice a ss.length c], .int .i64 left] w fun e w' => e = .returned (.int .i64 (-1)) ∧ Below w.heap.size w w' := by
  have L0 := below_alloc1 w (.cells #[.slice a ss.length c] 42)
  go_enter Try.func17, Try.ntmps17
  go_wp2_with fail
  refine (szStringS_not a c ss left _ h0 h00 hl hm0 hf ((hv.on L0).up L0.size)).mono ?_
  rintro e w1 ⟨rfl, rfl⟩
  go_wp2
  go_ret
  exact ⟨rfl, L0⟩
/-- What the copy of a ring leaves. -/
def CopiedR (w : World) (ss : List ByteArray) (e : Ending) (w' : World) : Prop :=
  ∃ g : Nat, e = .returned (.agg #[.slice (some ⟨g, 0, none⟩) ss.length ss.length]) ∧ Sg w' w'.heap.size (some ⟨g, 0, none⟩) ss ∧ Below w.heap.size w w'
set_option maxHeartbeats 1000000 in
theorem toRing_any (a : Option Addr) (c : Nat) (ss : List ByteArray) (w : World) (hn : ss.length ≤ 1048576) (hv : Sg w w.heap.size a ss) :
    Calls Try.prog 19 #[.agg #[.slice a ss.length c]] w (CopiedR w ss) := by
  have S0 := (((Inv.start w).box 42 #[.slice a ss.length c]).box 45 #[.slice none 0 0]).box 45 #[.slice none 0 0]
  simp only [World.size_alloc] at S0
  go_enter Try.func19, Try.ntmps19
  go_wp2_with fail
  refine (toStringS_any a c ss _ hn ((hv.on S0.below).up S0.base)).mono ?_
  rintro e w1 ⟨g, cur, rfl, hg, hB, hcur, hb1⟩
  have S1 := S0.on hb1
  have q0 := (S1.nth 0 rfl).one
  have q1 := (S1.nth 1 rfl).one
  have HB := hide hB
  have HG : Hid (w.heap.size + 1 + 1 < g) := by simp at hg; unfold Hid; omega
  have HC := hide hcur
  have HL := hide S1.below
  have r1 := ((S1.nth 1 rfl).aside (p := ⟨w.heap.size + 1 + 1, 0, none⟩) (by simp) (.slice (some ⟨g, 0, none⟩) ss.length ss.length)).one
  clear S0 S1 hB hg hcur hb1
  go_wp2
  refine bodyPost_ret (v := .agg #[.slice (some ⟨g, 0, none⟩) ss.length ss.length]) (by simp [results, Try.results19, go_sem, r1]) rfl ?_
  have hgw := HG.out
  have hB2 := (HB.out.aside (p := ⟨w.heap.size + 1 + 1, 0, none⟩) (by simp only; omega) (.slice (some ⟨g, 0, none⟩) ss.length ss.length)).aside (p := ⟨w.heap.size + 1, 0, none⟩) (by simp only; omega) (.slice (some ⟨g, 0, none⟩) ss.length ss.length)
  exact ⟨g, rfl, Sg.of hB2 hB2.inside HC.out, (HL.out.setCell (p := ⟨w.heap.size + 1 + 1, 0, none⟩) (by simp only; omega) _).setCell (p := ⟨w.heap.size + 1, 0, none⟩) (by simp only; omega) _⟩
set_option maxHeartbeats 1000000 in
theorem eqRing_same (a a' : Option Addr) (c c' n : Nat) (ss : List ByteArray) (w : World) (hn : n ≤ 1048576) (hvn : ss.length = n) (hv : Sg w w.heap.size a ss) (hu : Sg w w.heap.size a' ss) :
    Calls Try.prog 21 #[.agg #[.slice a n c], .agg #[.slice a' n c']] w fun e w' => e = .returned (.bool true) ∧ Below w.heap.size w w' := by
  have S0 := ((Inv.start w).box 45 #[.slice a n c]).box 45 #[.slice a' n c']
  simp only [World.size_alloc] at S0
  have HN := hide hvn
  clear hvn
  go_enter Try.func21, Try.ntmps21
  go_wp2_with fail
  refine (eqStringS_same a a' c c' n ss _ hn HN.out ((hv.on S0.below).up S0.base) ((hu.on S0.below).up S0.base)).mono ?_
  rintro e w1 ⟨rfl, hb1⟩
  have S1 := S0.on hb1
  clear S0
  go_wp2
  go_ret
  exact ⟨rfl, S1.below⟩
end Go.Proofs.Ytieechelogkeoaa
