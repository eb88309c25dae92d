/- Versions in a row: whether two rows are the same; their copy. Condition: at most 1048576 versions, and tags of each. -/
import Derived.Test.YtpkoidbenojkmaaStores
namespace Go.Proofs.Ytpkoidbenojkmaa
open Go.RowKit Go.Joins

/-- Two rows say the same as far as both go. -/
def Like (vs us : List V) : Prop := ∀ (i : Nat) (v v' : V), vs[i]? = some v → us[i]? = some v' → V.like v v'
theorem Like.swap {vs us : List V} (h : Like vs us) : Like us vs := fun i v v' h1 h2 => by
  obtain ⟨a, b, c, d, e, f⟩ := h i v' v h2 h1
  exact ⟨a.symm, b.symm, c.symm, d.symm, e.symm, f.symm⟩
set_option maxRecDepth 100000 in
set_option maxHeartbeats 2000000 in
theorem eqVerS_same (a a' : Option Addr) (c c' n : Nat) (vs us : List V) (w : World) (hn : n ≤ 1048576) (hvn : vs.length = n) (hun : us.length = n)
    (hlike : Like vs us) (hm : ∀ v ∈ vs, v.ts.length ≤ 1048576) (hv : Vg w w.heap.size a vs) (hu : Vg w w.heap.size a' us) :
    Calls Try.prog 19 #[.slice a n c, .slice a' n c'] w fun e w' => e = .returned (.bool true) ∧ Below w.heap.size w w' := by
  have HN := hide hvn
  have HU := hide hun
  have HK := hide hlike
  have HM := hide hm
  clear hvn hun hlike hm
  go_enter Try.func19, Try.ntmps19
  go_wp2
  go_loopw [5] (fun i wr => ∃ k : Nat, k ≤ n ∧ i = .int .i64 (k : Int) ∧ Below w.heap.size w wr) (fun i _ => n - (intOf i).toNat)
  case atStart => exact ⟨0, Nat.zero_le _, rfl, Below.refl _ _⟩
  case round =>
    obtain ⟨k, hk, rfl, hL⟩ := hrel
    by_cases hlt : k < n
    · rcases hv with e0 | ⟨b, off, rfl, hb, hx⟩
      · have := HN.out; subst e0; simp at this; omega
      · rcases hu with e0 | ⟨b', off', rfl, hb', hx'⟩
        · have := HU.out; subst e0; simp at this; omega
        · have hkl : k < vs.length := by have := HN.out; omega
          have hkl' : k < us.length := by have := HU.out; omega
          obtain ⟨hS, hT⟩ := hx k _ (List.getElem?_eq_getElem hkl)
          obtain ⟨hS2, hT2⟩ := hx' k _ (List.getElem?_eq_getElem hkl')
          have HX := hide (List.getElem?_eq_getElem hkl)
          have HY := hide (List.getElem?_eq_getElem hkl')
          generalize vs[k] = v at hS hT HX
          generalize us[k] = v' at hS2 hT2 HY
          have hli := HK.out k v v' HX.out HY.out
          have HB := hide (HM.out v (List.mem_of_getElem? HX.out))
          obtain ⟨vk, vt, vu, va, vc, vts, vs', vg⟩ := v
          obtain ⟨uk, ut, uu, ua, uc, uts, us', ug⟩ := v'
          obtain ⟨e1, e2, e3, e4, e5, e6⟩ := hli
          simp only at e1 e2 e3 e4 e5 e6 hS hS2 hT hT2
          subst e1 e2 e3 e4 e5 e6
          have Q1 := hide hS
          have Q2 := hide hS2
          have T1 := hide hT
          have T2 := hide hT2
          clear hS hS2 hT hT2 hx hx'
          have i1 : (0 : Int) ≤ (k : Int) := by omega
          have i2 : (k : Int) < (n : Int) := by omega
          go_wp2_with fail
          refine wp_region_noPanic ?_
          refine wp_region_held_drew (S := (fun w' => Six w' b (off + k * 6) ⟨vk, vt, vu, va, vc, vts, vs', vg⟩ ∧ Six w' b' (off' + k * 6) ⟨vk, vt, vu, ua, uc, vts, vs', vg⟩ ∧ Below w.heap.size w w')) (by kernel_rfl) (by exact ⟨Q1.out.keep hb fun _ hp => hL.cell hp, Q2.out.keep hb' fun _ hp => hL.cell hp, hL.drew⟩) (fun hHeld => ?_)
          refine take_run 0 (some 17) (v := ?_) rfl rfl (by kernel_rfl) (by kernel_rfl) (by kernel_rfl) (fun _ _ _ h => h) (by rfl) ?_ hHeld ?_
          rotate_left
          · ((intro w hSw); (try dsimp only at hSw); go_simp <;> with_reducible rfl)
          simp only [Act.put, List.setIfInBounds_toArray, List.set_cons_zero, List.set_cons_succ]
          refine take_run 1 (some 18) (v := ?_) rfl rfl (by kernel_rfl) (by kernel_rfl) (by kernel_rfl) (fun _ _ _ h => h) (by rfl) ?_ hHeld ?_
          rotate_left
          · ((intro w hSw); (try dsimp only at hSw); go_simp <;> with_reducible rfl)
          simp only [Act.put, List.setIfInBounds_toArray, List.set_cons_zero, List.set_cons_succ]
          refine take_run 2 (some 19) (v := ?_) rfl rfl (by kernel_rfl) (by kernel_rfl) (by kernel_rfl) (fun _ _ _ h => h) (by rfl) ?_ hHeld ?_
          rotate_left
          · ((intro w hSw); (try dsimp only at hSw); go_simp <;> with_reducible rfl)
          simp only [Act.put, List.setIfInBounds_toArray, List.set_cons_zero, List.set_cons_succ]
          refine take_run 3 (some 20) (v := ?_) rfl rfl (by kernel_rfl) (by kernel_rfl) (by kernel_rfl) (fun _ _ _ h => h) (by rfl) ?_ hHeld ?_
          rotate_left
          · ((intro w hSw); (try dsimp only at hSw); go_simp <;> with_reducible rfl)
          simp only [Act.put, List.setIfInBounds_toArray, List.set_cons_zero, List.set_cons_succ]
          refine take_run 4 (some 21) (v := ?_) rfl rfl (by kernel_rfl) (by kernel_rfl) (by kernel_rfl) (fun _ _ _ h => h) (by rfl) ?_ hHeld ?_
          rotate_left
          · ((intro w hSw); (try dsimp only at hSw); go_simp <;> with_reducible rfl)
          simp only [Act.put, List.setIfInBounds_toArray, List.set_cons_zero, List.set_cons_succ]
          refine take_run 5 (some 22) (v := ?_) rfl rfl (by kernel_rfl) (by kernel_rfl) (by kernel_rfl) (fun _ _ _ h => h) (by rfl) ?_ hHeld ?_
          rotate_left
          · ((intro w hSw); (try dsimp only at hSw); go_simp <;> with_reducible rfl)
          simp only [Act.put, List.setIfInBounds_toArray, List.set_cons_zero, List.set_cons_succ]
          refine take_run 6 (some 23) (v := ?_) rfl rfl (by kernel_rfl) (by kernel_rfl) (by kernel_rfl) (fun _ _ _ h => h) (by rfl) ?_ hHeld ?_
          rotate_left
          · ((intro w hSw); (try dsimp only at hSw); go_simp <;> with_reducible rfl)
          simp only [Act.put, List.setIfInBounds_toArray, List.set_cons_zero, List.set_cons_succ]
          refine take_run 7 (some 24) (v := ?_) rfl rfl (by kernel_rfl) (by kernel_rfl) (by kernel_rfl) (fun _ _ _ h => h) (by rfl) ?_ hHeld ?_
          rotate_left
          · ((intro w hSw); (try dsimp only at hSw); go_simp <;> with_reducible rfl)
          simp only [Act.put, List.setIfInBounds_toArray, List.set_cons_zero, List.set_cons_succ]
          refine take_one 8 (by kernel_rfl) rfl (fun K hK => ?_)
          go_simp
          (refine (eqVer_same _ _ _ _ _ _ _ vts _ _ _ HB.out ((T1.out.on hHeld.2.2).up hHeld.2.2.size) ((T2.out.on hHeld.2.2).up hHeld.2.2.size)).mono ?_; rintro e w1 ⟨rfl, hb1⟩)
          try go_wp2_with fail
          refine hK.out _ _ (by exact ⟨Q1.out.keep hb fun _ hp => (hHeld.2.2.trans (hb1.mono hHeld.2.2.size)).cell hp, Q2.out.keep hb' fun _ hp => (hHeld.2.2.trans (hb1.mono hHeld.2.2.size)).cell hp, hHeld.2.2.trans (hb1.mono hHeld.2.2.size)⟩) (fun hHeld => ?_)
          clear hK K
          refine take_run 9 (some 26) (v := ?_) rfl rfl (by kernel_rfl) (by kernel_rfl) (by kernel_rfl) (fun _ _ _ h => h) (by rfl) ?_ hHeld ?_
          rotate_left
          · ((intro w hSw); (try dsimp only at hSw); go_simp <;> with_reducible rfl)
          simp only [Act.put, List.setIfInBounds_toArray, List.set_cons_zero, List.set_cons_succ]
          refine wpAnyH_done (by kernel_rfl) ?_ _
          refine NoPanic.normal ?_
          have hL2 := hHeld.2.2
          clear hHeld hL
          go_wp2
          exact ⟨⟨k + 1, by omega, by go_num, hL2⟩, by simp [intOf]; omega⟩
    · have hkn : k = n := by omega
      subst hkn
      clear hlt
      go_wp2
      go_ret
      exact ⟨rfl, hL⟩
set_option maxHeartbeats 1000000 in
theorem eqStore_same (a a' : Option Addr) (c c' n : Nat) (vs us : List V) (w : World) (hn : n ≤ 1048576) (hvn : vs.length = n) (hun : us.length = n)
    (hlike : Like vs us) (hm : ∀ v ∈ vs, v.ts.length ≤ 1048576) (hv : Vg w w.heap.size a vs) (hu : Vg w w.heap.size a' us) :
    Calls Try.prog 59 #[.agg #[.slice a n c], .agg #[.slice a' n c']] w fun e w' => e = .returned (.bool true) ∧ Below w.heap.size w w' := by
  have S0 := ((Inv.start w).box 67 #[.slice a n c]).box 67 #[.slice a' n c']
  simp only [World.size_alloc] at S0
  go_enter Try.func59, Try.ntmps59
  go_wp2_with fail
  refine (eqVerS_same a a' c c' n vs us _ hn hvn hun hlike hm ((hv.on S0.below).up S0.base) ((hu.on S0.below).up S0.base)).mono ?_
  rintro e w1 ⟨rfl, hb1⟩
  have S1 := S0.on hb1
  clear S0
  go_wp2
  go_ret
  exact ⟨rfl, S1.below⟩

theorem ver_info : (Try.prog.info? 74).map (fun i => (i.zero, i.size, i.bytes)) = some (some (.agg (verC 0 0 0 none 0 0 ⟨#[]⟩ false)), 6, 72) := by kernel_rfl

/-- The six cells of the version at place i of a row of cells. -/
def VerAt (cur : Array Value) (i : Nat) (v : V) : Prop :=
  cur[i * 6]? = some (.int .i64 v.k) ∧ cur[i * 6 + 1]? = some (.int .i64 v.t) ∧ cur[i * 6 + 2]? = some (.int .i64 v.u) ∧ cur[i * 6 + 3]? = some (.slice v.a v.ts.length v.c) ∧ cur[i * 6 + 4]? = some (.string v.s) ∧ cur[i * 6 + 5]? = some (.bool v.g)
/-- Cells with the version at place k turned. -/
abbrev put6 (cur : Array Value) (k : Nat) (v : V) : Array Value :=
  (((((cur.setIfInBounds (k * 6) (.int .i64 v.k)).setIfInBounds (k * 6 + 1) (.int .i64 v.t)).setIfInBounds (k * 6 + 2) (.int .i64 v.u)).setIfInBounds (k * 6 + 3) (.slice v.a v.ts.length v.c)).setIfInBounds (k * 6 + 4) (.string v.s)).setIfInBounds (k * 6 + 5) (.bool v.g)
theorem verAt_put {cur : Array Value} {k : Nat} {v : V} (h : k * 6 + 5 < cur.size) : VerAt (put6 cur k v) k v := by
  refine ⟨?_, ?_, ?_, ?_, ?_, ?_⟩ <;> simp [put6, Array.getElem?_setIfInBounds] <;> omega
theorem verAt_other {cur : Array Value} {j k : Nat} {v v' : V} (hj : j ≠ k) (h : VerAt cur j v) : VerAt (put6 cur k v') j v := by
  obtain ⟨h0, h1, h2, h3, h4, h5⟩ := h
  refine ⟨?_, ?_, ?_, ?_, ?_, ?_⟩
  all_goals
    unfold put6
    rw [Array.getElem?_setIfInBounds_ne (by omega), Array.getElem?_setIfInBounds_ne (by omega), Array.getElem?_setIfInBounds_ne (by omega), Array.getElem?_setIfInBounds_ne (by omega), Array.getElem?_setIfInBounds_ne (by omega), Array.getElem?_setIfInBounds_ne (by omega)]
    assumption
/-- A version whose causes lie in a block of their own, numbered above G. -/
def Own (w : World) (G : Nat) (v : V) : Prop :=
  ∃ (g : Nat) (cur : Array Value), v.a = some ⟨g, 0, none⟩ ∧ G < g ∧ Blk w g 55 cur ∧ cur.size = v.ts.length * 2 ∧ ∀ i x, v.ts[i]? = some x → TagAt cur i x
theorem Own.on {w w' : World} {G : Nat} {v : V} (h : Own w G v) (hb : Below w.heap.size w w') : Own w' G v := by
  obtain ⟨g, cur, h1, h2, h3, h4, h5⟩ := h
  exact ⟨g, cur, h1, h2, h3.on hb, h4, h5⟩
theorem Own.aside {w : World} {G : Nat} {v : V} (h : Own w G v) (i : Nat) (x : Value) : Own (w.setCell ⟨G, i, none⟩ x) G v := by
  obtain ⟨g, cur, h1, h2, h3, h4, h5⟩ := h
  exact ⟨g, cur, h1, h2, h3.aside (by simp; omega) x, h4, h5⟩
theorem Own.tg {w : World} {G : Nat} {v : V} (h : Own w G v) : Tg w w.heap.size v.a v.ts := by
  obtain ⟨g, cur, h1, h2, h3, h4, h5⟩ := h
  rw [h1]
  exact Tg.of h3 h3.inside h5
/-- A row of versions in one block, each with its causes in a block of its own. -/
def Row (w : World) (G : Nat) (us : List V) (cur : Array Value) : Prop := Blk w G 74 cur ∧ ∀ i v, us[i]? = some v → VerAt cur i v ∧ Own w G v
theorem Row.on {w w' : World} {G : Nat} {us : List V} {cur : Array Value} (h : Row w G us cur) (hb : Below w.heap.size w w') : Row w' G us cur := ⟨h.1.on hb, fun i v hi => ⟨(h.2 i v hi).1, (h.2 i v hi).2.on hb⟩⟩
theorem Row.vg {w : World} {G : Nat} {us : List V} {cur : Array Value} (h : Row w G us cur) : Vg w w.heap.size (some ⟨G, 0, none⟩) us :=
  .inr ⟨G, 0, rfl, h.1.inside, fun i v hi => by
    obtain ⟨⟨h0, h1, h2, h3, h4, h5⟩, ho⟩ := h.2 i v hi
    refine ⟨⟨?_, ?_, ?_, ?_, ?_, ?_⟩, ho.tg⟩
    all_goals
      rw [Nat.zero_add, h.1.at]
      assumption⟩
theorem like_step {us vs : List V} {k : Nat} {v v' : V} (h : Like us vs) (hk : us.length = k) (hv : vs[k]? = some v') (hl : V.like v v') : Like (us ++ [v]) vs := fun i x x' hi hi' => by
  by_cases e : i < us.length
  · rw [List.getElem?_append_left e] at hi
    exact h i x x' hi hi'
  · rw [List.getElem?_append_right (by omega)] at hi
    have h0 : i - us.length = 0 := by
      have := (List.getElem?_eq_some_iff.1 hi).1
      simp at this
      omega
    have hik : i = k := by omega
    rw [h0] at hi
    subst hik
    simp at hi
    rw [hv] at hi'
    injection hi' with hi'
    subst hi hi'
    exact hl
theorem row_step {w : World} {G k : Nat} {us : List V} {cur : Array Value} {v : V} (h : Row w G us cur) (hk : us.length = k) (ho : Own w G v) (hs : k * 6 + 5 < cur.size) :
    Row ((((((w.setCell ⟨G, k * 6, none⟩ (.int .i64 v.k)).setCell ⟨G, k * 6 + 1, none⟩ (.int .i64 v.t)).setCell ⟨G, k * 6 + 2, none⟩ (.int .i64 v.u)).setCell ⟨G, k * 6 + 3, none⟩ (.slice v.a v.ts.length v.c)).setCell ⟨G, k * 6 + 4, none⟩ (.string v.s)).setCell ⟨G, k * 6 + 5, none⟩ (.bool v.g)) G (us ++ [v]) (put6 cur k v) := by
  refine ⟨(((((h.1.put _ _).put _ _).put _ _).put _ _).put _ _).put _ _, fun i x hi => ?_⟩
  by_cases e : i < us.length
  · rw [List.getElem?_append_left e] at hi
    obtain ⟨h1, h2⟩ := h.2 i x hi
    exact ⟨verAt_other (by omega) h1, (((((h2.aside _ _).aside _ _).aside _ _).aside _ _).aside _ _).aside _ _⟩
  · rw [List.getElem?_append_right (by omega)] at hi
    have h0 : i - us.length = 0 := by
      have := (List.getElem?_eq_some_iff.1 hi).1
      simp at this
      omega
    have hik : i = k := by omega
    rw [h0] at hi
    subst hik
    simp at hi
    subst hi
    exact ⟨verAt_put hs, (((((ho.aside _ _).aside _ _).aside _ _).aside _ _).aside _ _).aside _ _⟩
/-- What toVerS leaves. -/
def CopiedVS (w : World) (vs : List V) (e : Ending) (w' : World) : Prop :=
  ∃ (g : Nat) (us : List V) (cur : Array Value), e = .returned (.slice (some ⟨g, 0, none⟩) vs.length vs.length) ∧ w.heap.size ≤ g ∧ us.length = vs.length ∧ (Like us vs) ∧ Row w' g us cur ∧ cur.size = vs.length * 6 ∧ Below w.heap.size w w'

/-- What toStore leaves. -/
def CopiedSt (w : World) (vs : List V) (e : Ending) (w' : World) : Prop :=
  ∃ (g : Nat) (us : List V) (cur : Array Value), e = .returned (.agg #[.slice (some ⟨g, 0, none⟩) vs.length vs.length]) ∧ w.heap.size ≤ g ∧ us.length = vs.length ∧ (Like us vs) ∧ Row w' g us cur ∧ cur.size = vs.length * 6 ∧ Below w.heap.size w w'
theorem Row.aside {w : World} {G : Nat} {us : List V} {cur : Array Value} (h : Row w G us cur) {p : Addr} (hp : p.block < G) (x : Value) : Row (w.setCell p x) G us cur :=
  ⟨h.1.aside (by omega) x, fun i v hi => ⟨(h.2 i v hi).1, by
    obtain ⟨g, c, h1, h2, h3, h4, h5⟩ := (h.2 i v hi).2
    exact ⟨g, c, h1, h2, h3.aside (by omega) x, h4, h5⟩⟩⟩

end Go.Proofs.Ytpkoidbenojkmaa
