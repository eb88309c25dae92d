/- Contracts of ChainNew, in the program and in the model. No condition. -/
import Derived.Test.YtpelibkdphgpjaaJStoreNew0
namespace Go.Proofs.Ytpelibkdphgpjaa
open Go.RowKit Go.Joins
attribute [local go_sem ↓] Go.wp_at_zero Go.wp_at_succ

/-- The cells of a new node whose store lies in block g. -/
def cells2 (g : Nat) : List Value := [.slice (some ⟨g, 0, none⟩) 4 4, .slice none 0 0]
def flat2 (gs : List Nat) : List Value := gs.flatMap cells2
def nd0 (g : Nat) : Nd := ⟨some ⟨g, 0, none⟩, 4, [v0, v0, v0, v0], none, 0, []⟩
theorem flat2_snoc (gs : List Nat) (g : Nat) : flat2 (gs ++ [g]) = flat2 gs ++ cells2 g := by simp [flat2]
theorem flat2_at : ∀ (gs : List Nat) (i g m : Nat), gs[i]? = some g → m < 2 → (flat2 gs)[i * 2 + m]? = (cells2 g)[m]?
  | [], i, v, m, h, _ => by simp at h
  | x :: r, 0, v, m, h, hm => by
    simp at h
    subst h
    have e : flat2 (x :: r) = cells2 x ++ flat2 r := by simp [flat2]
    rw [e, Nat.zero_mul, Nat.zero_add, List.getElem?_append_left (by simp [cells2]; omega)]
  | x :: r, i + 1, v, m, h, hm => by
    have e : flat2 (x :: r) = cells2 x ++ flat2 r := by simp [flat2]
    have h6 : (cells2 x).length = 2 := rfl
    rw [e, List.getElem?_append_right (by omega), h6]
    have : (i + 1) * 2 + m - 2 = i * 2 + m := by omega
    rw [this]
    exact flat2_at r i v m (by simpa using h) hm
theorem ndAt_of {cur : Array Value} {gs : List Nat} {n : Nat} (h : cur.toList.take n = flat2 gs) (i g : Nat) (hi : gs[i]? = some g) : NdAt cur i (nd0 g) := by
  have key : ∀ m, m < 2 → cur[i * 2 + m]? = (cells2 g)[m]? := by
    intro m hm
    have h1 := flat2_at gs i g m hi hm
    rw [← h] at h1
    have h2 : ∃ u, (cells2 g)[m]? = some u := ⟨_, List.getElem?_eq_getElem (by simp [cells2]; omega)⟩
    obtain ⟨u, hu⟩ := h2
    rw [hu] at h1 ⊢
    obtain ⟨hl, _⟩ := List.getElem?_eq_some_iff.1 h1
    rw [List.length_take] at hl
    rw [List.getElem?_take_of_lt (by omega)] at h1
    simpa using h1
  exact ⟨key 0 (by omega), key 1 (by omega)⟩
theorem node_info : (Try.prog.info? 77).map (fun i => (i.zero, i.size, i.bytes)) = some (some (.agg #[.slice none 0 0, .slice none 0 0]), 2, 48) := by kernel_rfl

/-- A row of new nodes as it grows. -/
structure NwRow (base : Nat) (wr : World) (x : Value) (gs : List Nat) : Prop where
  row : wr.ownsRow base 77 2 x gs.length (flat2 gs)
  own : ∀ (i g : Nat), gs[i]? = some g → Blk wr g 55 zero24 ∧ base ≤ g
  apart : ∀ (i j g g' : Nat), i ≠ j → gs[i]? = some g → gs[j]? = some g' → g ≠ g'
  lo : base ≤ wr.heap.size
theorem NwRow.start (base : Nat) (w : World) (h : base ≤ w.heap.size) : NwRow base w (.slice none 0 0) [] :=
  ⟨World.ownsRow_nil _ _ _ _, fun i v h => by simp at h, fun i j v v' _ h => by simp at h, h⟩
theorem NwRow.typed {base : Nat} {wr : World} {x : Value} {us : List Nat} (h : NwRow base wr x us) (r : Nat) (hr : x.ownBlock = some r) : ∃ cs, Blk wr r 77 cs ∧ base ≤ r ∧ r < wr.heap.size := by
  rcases h.row.2 with ⟨rfl, _⟩ | ⟨g', cap, cr, rfl, hg', hb', _⟩
  · simp [Value.ownBlock] at hr
  · simp [Value.ownBlock] at hr
    subst hr
    exact ⟨cr, hb', hg', Blk.inside hb'⟩
theorem NwRow.form {base : Nat} {wr : World} {x : Value} {us : List Nat} (h : NwRow base wr x us) : ∃ A n c, x = .slice A n c := by
  rcases h.row.2 with ⟨rfl, _⟩ | ⟨g', cap, cr, rfl, hg', hb', _⟩
  · exact ⟨_, _, _, rfl⟩
  · exact ⟨_, _, _, rfl⟩
theorem NwRow.on {base : Nat} {wr w2 : World} {x : Value} {us : List Nat} (h : NwRow base wr x us) (hb : Below wr.heap.size wr w2) : NwRow base w2 x us :=
  ⟨World.ownsRow.kept h.row (grown_none (row := none) hb) (Classical.em _), fun i v hi => ⟨(h.own i v hi).1.on hb, (h.own i v hi).2⟩, h.apart, Nat.le_trans h.lo hb.size⟩
theorem NwRow.aside {base : Nat} {wr : World} {x : Value} {us : List Nat} (h : NwRow base wr x us) {p : Addr} (hp : p.block < base) (u : Value) : NwRow base (wr.setCell p u) x us :=
  ⟨ownsRow_setCell_below h.row hp u, fun i v hi => ⟨(h.own i v hi).1.aside (by have := (h.own i v hi).2; omega) u, (h.own i v hi).2⟩, h.apart, by simpa [World.setCell] using h.lo⟩
theorem NwRow.down {base base' : Nat} {wr : World} {x : Value} {us : List Nat} (h : NwRow base wr x us) (hb : base' ≤ base) : NwRow base' wr x us :=
  ⟨⟨h.row.1, by
    rcases h.row.2 with h | ⟨g, cap, cr, h1, h2, h3⟩
    · exact .inl h
    · exact .inr ⟨g, cap, cr, h1, by omega, h3⟩⟩, fun i v hi => ⟨(h.own i v hi).1, by have := (h.own i v hi).2; omega⟩, h.apart, by have := h.lo; omega⟩
/-- One node more. -/
theorem NwRow.push {base : Nat} {wr w1 w2 : World} {x : Value} {us : List Nat} {v g cap : Nat} (h : NwRow base wr x us) (hb : Below wr.heap.size wr w1) (hv : wr.heap.size ≤ v) (ho : Blk w1 v 55 zero24)
    (hown : w2.ownsRow base 77 2 (.slice (some ⟨g, 0, none⟩) (us.length + 1) cap) (us.length + 1) (flat2 us ++ cells2 v)) (hg : w1.grownBy w2 x.ownBlock) : NwRow base w2 (.slice (some ⟨g, 0, none⟩) (us.length + 1) cap) (us ++ [v]) := by
  have hk : ∀ y, Blk w1 y 55 zero24 → Blk w2 y 55 zero24 := fun y hy => hy.kept hg (fun e => by
    obtain ⟨cs, h1, _⟩ := h.typed y e
    exact node_ne_ver (blk_one (h1.on hb) hy))
  have zb := h.lo
  have z1 := hb.size
  have z2 := hg.size
  have hget : ∀ (i : Nat) y, (us ++ [v])[i]? = some y → (i = us.length ∧ y = v) ∨ (i < us.length ∧ us[i]? = some y) := by
    intro i y hy
    by_cases e : i < us.length
    · rw [List.getElem?_append_left e] at hy
      exact .inr ⟨e, hy⟩
    · rw [List.getElem?_append_right (by omega)] at hy
      have h0 : i - us.length = 0 := by
        have := (List.getElem?_eq_some_iff.1 hy).1
        simp at this
        omega
      rw [h0] at hy
      simp at hy
      exact .inl ⟨by omega, hy.symm⟩
  have hap : ∀ (i : Nat) y, us[i]? = some y → y ≠ v := fun i y hy => by have := (h.own i y hy).1.inside; omega
  refine ⟨by simpa [flat2_snoc] using hown, fun i y hy => ?_, fun i j y y' hne hy hy' => ?_, by omega⟩
  · rcases hget i y hy with ⟨rfl, rfl⟩ | ⟨_, hy⟩
    · exact ⟨hk _ ho, by omega⟩
    · exact ⟨hk _ ((h.own i y hy).1.on hb), (h.own i y hy).2⟩
  · rcases hget i y hy with ⟨e1, e2⟩ | ⟨e, hq⟩ <;> rcases hget j y' hy' with ⟨e3, e4⟩ | ⟨e', hq'⟩
    · omega
    · rw [e2]; exact fun e => hap j y' hq' e.symm
    · rw [e4]; exact hap i y hq
    · exact h.apart i j y y' hne hq hq'
theorem foot0 {g h : Nat} (hf : FootN (nd0 g) h) : h = g := by
  rcases hf with ⟨_, G, e, hf⟩ | ⟨h0, _⟩
  · simp only [nd0] at e hf
    injection e with e
    injection e with e
    subst e
    rcases hf with hf | ⟨i, v, hi, hn, _⟩
    · exact hf
    · rw [v0_mem hi] at hn
      exact absurd rfl hn
  · exact absurd rfl h0
theorem NwRow.res {base : Nat} {wr : World} {A : Option Addr} {n c : Nat} {gs : List Nat} (h : NwRow base wr (.slice A n c) gs) : n = gs.length ∧ (gs = [] ∨ ∃ G cur, A = some ⟨G, 0, none⟩ ∧ NRow wr base wr.heap.size G (gs.map nd0) cur) := by
  have hget : ∀ (i : Nat) y, (gs.map nd0)[i]? = some y → ∃ g, gs[i]? = some g ∧ y = nd0 g := by
    intro i y hy
    rw [List.getElem?_map] at hy
    cases hx : gs[i]? with
    | none => rw [hx] at hy; cases hy
    | some x =>
      rw [hx] at hy
      simp only [Option.map_some] at hy
      injection hy with hy
      exact ⟨x, rfl, hy.symm⟩
  rcases h.row.2 with ⟨e0, e⟩ | ⟨g', cap, cr, e0, hg', hb', hn, hm, hs, ht⟩
  · injection e0 with _ e1 _
    exact ⟨by omega, .inl (List.length_eq_zero_iff.1 (by omega))⟩
  · injection e0 with e0 e1 e2
    subst e0 e1 e2
    refine ⟨rfl, .inr ⟨g', cr, rfl, hb', hg', Blk.inside hb', by rw [List.length_map]; omega, ?_, ?_, ?_, ?_, ?_⟩⟩
    · intro i y hy
      obtain ⟨g, hg, rfl⟩ := hget i y hy
      exact ndAt_of ht i g hg
    · intro i y hy
      obtain ⟨g, hg, rfl⟩ := hget i y hy
      have ho := h.own i g hg
      exact .inr ⟨g, zero24, rfl, ho.1, ho.2, ho.1.inside, by simp [nd0], zero24_at, fun i v hi => .inl (by rw [v0_mem hi]; rfl), fun i j v v' _ hi _ hn => by rw [v0_mem hi] at hn; exact absurd rfl hn⟩
    · intro i y hy
      obtain ⟨g, hg, rfl⟩ := hget i y hy
      exact .inl rfl
    · intro i y hy g h1 h2
      obtain ⟨g, hg, rfl⟩ := hget i y hy
      exact absurd rfl h2.1
    · intro i j y y' hne hy hy' x h1 h2
      obtain ⟨g, hg, rfl⟩ := hget i y hy
      obtain ⟨g', hg', rfl⟩ := hget j y' hy'
      exact h.apart i j g g' hne hg hg' ((foot0 h1).symm.trans (foot0 h2))

/-- How many nodes a new chain has. -/
def chN (n : Int) : Nat := if 1 ≤ n ∧ n ≤ 4 then n.toNat else 0
/-- A new chain as a call has made it. -/
def ResC (w : World) (B U : Nat) (A : Option Addr) (gs : List Nat) : Prop := gs = [] ∨ ∃ G cur, A = some ⟨G, 0, none⟩ ∧ NRow w B U G (gs.map nd0) cur
def NewC (w : World) (n : Int) (e : Ending) (w' : World) : Prop :=
  ∃ (A : Option Addr) (cap : Nat) (gs : List Nat), e = .returned (.agg #[.slice A (chN n) cap]) ∧ gs.length = chN n ∧ ResC w' w.heap.size w'.heap.size A gs ∧ Below w.heap.size w w'

set_option maxRecDepth 100000 in
set_option maxHeartbeats 8000000 in
theorem implChainNew_any (n : Int) (w : World) : Calls Try.prog 11 #[.int .i64 n] w (NewC w n) := by
  obtain ⟨i0, hi0, hz0, hz1, hz2⟩ := info_parts node_info
  have I0 := hide hi0
  have I1 := hide hz0
  have I2 := hide hz1
  have I3 := hide hz2
  clear hi0 hz0 hz1 hz2
  by_cases h1 : n < 1
  · have HC : Hid (chN n = 0) := by unfold Hid chN; rw [if_neg (by omega)]
    go_enter Try.func11, Try.ntmps11
    go_wp2
    refine bodyPost_ret (v := .agg #[.slice none 0 0]) (by simp [results, Try.results11, go_sem]) rfl ?_
    exact ⟨none, 0, [], by rw [HC.out], HC.out.symm, .inl rfl, below_alloc1 _ _⟩
  · by_cases h2 : n > 4
    · have HC : Hid (chN n = 0) := by unfold Hid chN; rw [if_neg (by omega)]
      go_enter Try.func11, Try.ntmps11
      go_wp2
      refine bodyPost_ret (v := .agg #[.slice none 0 0]) (by simp [results, Try.results11, go_sem]) rfl ?_
      exact ⟨none, 0, [], by rw [HC.out], HC.out.symm, .inl rfl, below_alloc1 _ _⟩
    · obtain ⟨m, rfl⟩ : ∃ m : Nat, n = (m : Int) := ⟨n.toNat, by omega⟩
      have HC : Hid (chN (m : Int) = m) := by unfold Hid chN; rw [if_pos (by omega)]; simp
      have hm4 : m ≤ 4 := by omega
      have S0 := (Inv.start w).box 26 #[.slice none 0 0]
      have V0 := Blk.made (w.alloc (.cells #[.slice none 0 0] 26)) 26 #[.slice none 0 0]
      have S1 := S0.alloc (.cells #[.slice none 0 0] 26)
      simp only [World.size_alloc] at S1 V0
      have HC0 := hide (NwRow.start (w.heap.size + 1 + 1) ((w.alloc (.cells #[.slice none 0 0] 26)).alloc (.cells #[.slice none 0 0] 26)) (by simp))
      clear S0
      go_enter Try.func11, Try.ntmps11
      go_wp2
      go_loopw [12] (fun i wr => ∃ (k : Nat) (x : Value) (us : List Nat), k ≤ m ∧ i = .int .i64 (k : Int) ∧ Blk wr (w.heap.size + 1) 26 #[x] ∧ Hid (us.length = k) ∧ Hid (NwRow (w.heap.size + 1 + 1) wr x us) ∧ Inv w (w.heap.size + 1) [(w.heap.size, 26, #[.slice none 0 0])] wr) (fun i _ => m - (intOf i).toNat)
      case atStart => exact ⟨0, _, [], Nat.zero_le _, rfl, V0, rfl, HC0.out, S1⟩
      case round =>
        obtain ⟨k, x, us, hk, rfl, hV, HU, HCC, hI⟩ := hrel
        clear S1 V0 HC0
        by_cases hlt : k < m
        · have i2 : (k : Int) < (m : Int) := by omega
          obtain ⟨xa, xn, xc, rfl⟩ := HCC.out.form
          have HV := hide (HCC.out.typed)
          have hlo := HCC.out.lo
          have V1 := hV.drew
          have q1 := V1.one.1
          have C1 := hide (HCC.out.on (Below.refl _ _).drew)
          go_wp2_with fail
          refine wp_region_noPanic ?_
          refine wp_region_held_drew (S := (fun w' => Inv w (w.heap.size + 1) [(w.heap.size, 26, #[.slice none 0 0])] w')) (by kernel_rfl) (by exact hI.drew) (fun hHeld => ?_)
          refine take_run 0 (some 14) (v := ?_) rfl rfl (by kernel_rfl) (by kernel_rfl) (by kernel_rfl) (fun _ _ _ h => h) (by rfl) ?_ hHeld ?_
          rotate_left
          · ((intro w hSw); (try dsimp only at hSw); go_simp <;> with_reducible rfl)
          simp only [Act.put, List.setIfInBounds_toArray, List.set_cons_zero, List.set_cons_succ]
          refine wpAnyH_ready (rs := [1, 2]) (by kernel_rfl) (by simp) ?_
          refine AllReadyH.cons rfl (fun K hK => ?_) (AllReadyH.cons rfl (fun K hK => ?_) AllReadyH.nil)
          · skip
            go_simp
            refine hK.out _ _ (by exact hHeld) (fun hHeld => ?_)
            clear hK K
            refine take_one 2 (by kernel_rfl) rfl (fun K hK => ?_)
            go_simp
            (refine (implStoreNew_any _).mono ?_; rintro e w1 ⟨g1, rfl, hg1, hB1, hb1⟩; have C2 := hide (C1.out.on hb1); have V2 := V1.on hb1; have HG := hide hB1; have HG1 := hide (show wr.heap.size ≤ g1 by simpa using hg1); have z1 : wr.heap.size ≤ w1.heap.size := (by have := hb1.size; simpa using this); have HR := hide (show w1.ownsRow (w.heap.size + 1 + 1) 77 2 (.slice xa xn xc) k (flat2 us) by have := C2.out.row; rw [HU.out] at this; exact this); have HB1 := hide hb1; have q2 := V2.one.1; have q4 := (V2.more (.cells #[.slice (some ⟨g1, 0, none⟩) 4 4, .slice none 0 0] 77)).one.1)
            try go_wp2_with fail
            refine hK.out _ _ (by exact hHeld.on HB1.out) (fun hHeld => ?_)
            clear hK K
            refine take_run 3 (some 17) (v := ?_) rfl rfl (by kernel_rfl) (by kernel_rfl) (by kernel_rfl) (fun _ _ _ h => h) (by rfl) ?_ hHeld ?_
            rotate_left
            · ((intro w hSw); (try dsimp only at hSw); go_simp <;> with_reducible rfl)
            simp only [Act.put, List.setIfInBounds_toArray, List.set_cons_zero, List.set_cons_succ]
            refine take_one 4 (by kernel_rfl) rfl (fun K hK => ?_)
            go_simp
            refine hK.out _ _ (by exact hHeld.alloc _) (fun hHeld => ?_)
            clear hK K
            refine take_one 5 (by kernel_rfl) rfl (fun K hK => ?_)
            (refine step_append_lies _ (by rfl) _ _ _ (by rfl) (w.heap.size + 1 + 1) 77 i0 _ 2 48 Try.underlying24 I0.out I1.out I2.out I3.out rfl (by omega) (.slice xa xn xc) k (flat2 us) (by rfl) (HR.out.alloc _) ⟨w1.heap.size, 0, none⟩ 1 1 (cells2 g1) (by rfl) (by rfl) (World.news_of_block (cs := #[.slice (some ⟨g1, 0, none⟩) 4 4, .slice none 0 0]) (t := 77) (fr := (0, 0)) (heap_alloc_new w1 _)) (by simp [cells2, Value.oneCell']) (by omega) (by unfold maxLen; omega) (by omega) (by simp; omega) _ rfl ?_; intro g cap w2 hown2 hgrow hat hlt2; have V3 := (V2.more (.cells #[.slice (some ⟨g1, 0, none⟩) 4 4, .slice none 0 0] 77)).kept hgrow (by intro e; have hq := HV.out _ e; obtain ⟨_, _, h1, _⟩ := hq; omega); have q3 := V3.one; have OW := hide hown2; have GW := hide hgrow; clear hown2)
            simp only [List.getElem_toArray, List.getElem_cons_zero, List.getElem_cons_succ, Act.put, List.setIfInBounds_toArray, List.set_cons_zero, List.set_cons_succ]
            refine hK.out _ _ (by exact Inv.grow hHeld hgrow (fun g' e => by have hq := HV.out _ e; obtain ⟨_, _, h1, _⟩ := hq; omega)) (fun hHeld => ?_)
            clear hK K
            refine take_run 6 (some 20) (v := ?_) rfl rfl (by kernel_rfl) (by kernel_rfl) (by kernel_rfl) (fun _ _ _ h => h) (by rfl) ?_ hHeld ?_
            rotate_left
            · ((intro w hSw); (try dsimp only at hSw); go_simp <;> with_reducible rfl)
            simp only [Act.put, List.setIfInBounds_toArray, List.set_cons_zero, List.set_cons_succ]
            refine take_one 7 (by kernel_rfl) rfl (fun K hK => ?_)
            go_simp
            refine hK.out _ _ (by exact hHeld.set (by simp) (by simp <;> omega) _) (fun hHeld => ?_)
            clear hK K
            refine wpAnyH_done (by kernel_rfl) ?_ _
            refine NoPanic.normal ?_
            have I9 := hHeld
            have C9 := HCC.out.push (w1 := w1.alloc (.cells #[.slice (some ⟨g1, 0, none⟩) 4 4, .slice none 0 0] 77)) (v := g1) (g := g) (cap := cap) (w2 := w2) (((Below.refl _ _).drew.trans (HB1.out.mono (Nat.le_refl _))).trans ((below_alloc1 w1 _).mono z1)) HG1.out (HG.out.more _) (by rw [HU.out]; exact OW.out) GW.out
            rw [HU.out] at C9
            have C10 := hide (C9.aside (p := ⟨w.heap.size + 1, 0, none⟩) (by simp only; omega) (.slice (some ⟨g, 0, none⟩) (k + 1) cap))
            have V9 := V3.put 0 (.slice (some ⟨g, 0, none⟩) (k + 1) cap)
            have HU9 : Hid ((us ++ [g1]).length = k + 1) := (by unfold Hid; rw [List.length_append, HU.out]; rfl)
            clear hHeld V3 q3 q1 q2 q4 V1 V2 C9 C1 C2 HCC
            go_wp2
            exact ⟨⟨k + 1, _, _, by omega, by go_num, V9, HU9, C10, I9⟩, by simp [intOf]; omega⟩
          · skip
            go_simp
            (refine (implStoreNew_any _).mono ?_; rintro e w1 ⟨g1, rfl, hg1, hB1, hb1⟩; have C2 := hide (C1.out.on hb1); have V2 := V1.on hb1; have HG := hide hB1; have HG1 := hide (show wr.heap.size ≤ g1 by simpa using hg1); have z1 : wr.heap.size ≤ w1.heap.size := (by have := hb1.size; simpa using this); have HR := hide (show w1.ownsRow (w.heap.size + 1 + 1) 77 2 (.slice xa xn xc) k (flat2 us) by have := C2.out.row; rw [HU.out] at this; exact this); have HB1 := hide hb1; have q2 := V2.one.1; have q4 := (V2.more (.cells #[.slice (some ⟨g1, 0, none⟩) 4 4, .slice none 0 0] 77)).one.1)
            try go_wp2_with fail
            refine hK.out _ _ (by exact hHeld.on HB1.out) (fun hHeld => ?_)
            clear hK K
            refine take_run 3 (some 17) (v := ?_) rfl rfl (by kernel_rfl) (by kernel_rfl) (by kernel_rfl) (fun _ _ _ h => h) (by rfl) ?_ hHeld ?_
            rotate_left
            · ((intro w hSw); (try dsimp only at hSw); go_simp <;> with_reducible rfl)
            simp only [Act.put, List.setIfInBounds_toArray, List.set_cons_zero, List.set_cons_succ]
            refine wpAnyH_ready (rs := [1, 4]) (by kernel_rfl) (by simp) ?_
            refine AllReadyH.cons rfl (fun K hK => ?_) (AllReadyH.cons rfl (fun K hK => ?_) AllReadyH.nil)
            · skip
              go_simp
              refine hK.out _ _ (by exact hHeld) (fun hHeld => ?_)
              clear hK K
              refine take_one 4 (by kernel_rfl) rfl (fun K hK => ?_)
              go_simp
              refine hK.out _ _ (by exact hHeld.alloc _) (fun hHeld => ?_)
              clear hK K
              refine take_one 5 (by kernel_rfl) rfl (fun K hK => ?_)
              (refine step_append_lies _ (by rfl) _ _ _ (by rfl) (w.heap.size + 1 + 1) 77 i0 _ 2 48 Try.underlying24 I0.out I1.out I2.out I3.out rfl (by omega) (.slice xa xn xc) k (flat2 us) (by rfl) (HR.out.alloc _) ⟨w1.heap.size, 0, none⟩ 1 1 (cells2 g1) (by rfl) (by rfl) (World.news_of_block (cs := #[.slice (some ⟨g1, 0, none⟩) 4 4, .slice none 0 0]) (t := 77) (fr := (0, 0)) (heap_alloc_new w1 _)) (by simp [cells2, Value.oneCell']) (by omega) (by unfold maxLen; omega) (by omega) (by simp; omega) _ rfl ?_; intro g cap w2 hown2 hgrow hat hlt2; have V3 := (V2.more (.cells #[.slice (some ⟨g1, 0, none⟩) 4 4, .slice none 0 0] 77)).kept hgrow (by intro e; have hq := HV.out _ e; obtain ⟨_, _, h1, _⟩ := hq; omega); have q3 := V3.one; have OW := hide hown2; have GW := hide hgrow; clear hown2)
              simp only [List.getElem_toArray, List.getElem_cons_zero, List.getElem_cons_succ, Act.put, List.setIfInBounds_toArray, List.set_cons_zero, List.set_cons_succ]
              refine hK.out _ _ (by exact Inv.grow hHeld hgrow (fun g' e => by have hq := HV.out _ e; obtain ⟨_, _, h1, _⟩ := hq; omega)) (fun hHeld => ?_)
              clear hK K
              refine take_run 6 (some 20) (v := ?_) rfl rfl (by kernel_rfl) (by kernel_rfl) (by kernel_rfl) (fun _ _ _ h => h) (by rfl) ?_ hHeld ?_
              rotate_left
              · ((intro w hSw); (try dsimp only at hSw); go_simp <;> with_reducible rfl)
              simp only [Act.put, List.setIfInBounds_toArray, List.set_cons_zero, List.set_cons_succ]
              refine take_one 7 (by kernel_rfl) rfl (fun K hK => ?_)
              go_simp
              refine hK.out _ _ (by exact hHeld.set (by simp) (by simp <;> omega) _) (fun hHeld => ?_)
              clear hK K
              refine wpAnyH_done (by kernel_rfl) ?_ _
              refine NoPanic.normal ?_
              have I9 := hHeld
              have C9 := HCC.out.push (w1 := w1.alloc (.cells #[.slice (some ⟨g1, 0, none⟩) 4 4, .slice none 0 0] 77)) (v := g1) (g := g) (cap := cap) (w2 := w2) (((Below.refl _ _).drew.trans (HB1.out.mono (Nat.le_refl _))).trans ((below_alloc1 w1 _).mono z1)) HG1.out (HG.out.more _) (by rw [HU.out]; exact OW.out) GW.out
              rw [HU.out] at C9
              have C10 := hide (C9.aside (p := ⟨w.heap.size + 1, 0, none⟩) (by simp only; omega) (.slice (some ⟨g, 0, none⟩) (k + 1) cap))
              have V9 := V3.put 0 (.slice (some ⟨g, 0, none⟩) (k + 1) cap)
              have HU9 : Hid ((us ++ [g1]).length = k + 1) := (by unfold Hid; rw [List.length_append, HU.out]; rfl)
              clear hHeld V3 q3 q1 q2 q4 V1 V2 C9 C1 C2 HCC
              go_wp2
              exact ⟨⟨k + 1, _, _, by omega, by go_num, V9, HU9, C10, I9⟩, by simp [intOf]; omega⟩
            · skip
              go_simp
              refine hK.out _ _ (by exact hHeld.alloc _) (fun hHeld => ?_)
              clear hK K
              refine take_one 1 (by kernel_rfl) rfl (fun K hK => ?_)
              go_simp
              refine hK.out _ _ (by exact hHeld) (fun hHeld => ?_)
              clear hK K
              refine take_one 5 (by kernel_rfl) rfl (fun K hK => ?_)
              (refine step_append_lies _ (by rfl) _ _ _ (by rfl) (w.heap.size + 1 + 1) 77 i0 _ 2 48 Try.underlying24 I0.out I1.out I2.out I3.out rfl (by omega) (.slice xa xn xc) k (flat2 us) (by rfl) (HR.out.alloc _) ⟨w1.heap.size, 0, none⟩ 1 1 (cells2 g1) (by rfl) (by rfl) (World.news_of_block (cs := #[.slice (some ⟨g1, 0, none⟩) 4 4, .slice none 0 0]) (t := 77) (fr := (0, 0)) (heap_alloc_new w1 _)) (by simp [cells2, Value.oneCell']) (by omega) (by unfold maxLen; omega) (by omega) (by simp; omega) _ rfl ?_; intro g cap w2 hown2 hgrow hat hlt2; have V3 := (V2.more (.cells #[.slice (some ⟨g1, 0, none⟩) 4 4, .slice none 0 0] 77)).kept hgrow (by intro e; have hq := HV.out _ e; obtain ⟨_, _, h1, _⟩ := hq; omega); have q3 := V3.one; have OW := hide hown2; have GW := hide hgrow; clear hown2)
              simp only [List.getElem_toArray, List.getElem_cons_zero, List.getElem_cons_succ, Act.put, List.setIfInBounds_toArray, List.set_cons_zero, List.set_cons_succ]
              refine hK.out _ _ (by exact Inv.grow hHeld hgrow (fun g' e => by have hq := HV.out _ e; obtain ⟨_, _, h1, _⟩ := hq; omega)) (fun hHeld => ?_)
              clear hK K
              refine take_run 6 (some 20) (v := ?_) rfl rfl (by kernel_rfl) (by kernel_rfl) (by kernel_rfl) (fun _ _ _ h => h) (by rfl) ?_ hHeld ?_
              rotate_left
              · ((intro w hSw); (try dsimp only at hSw); go_simp <;> with_reducible rfl)
              simp only [Act.put, List.setIfInBounds_toArray, List.set_cons_zero, List.set_cons_succ]
              refine take_one 7 (by kernel_rfl) rfl (fun K hK => ?_)
              go_simp
              refine hK.out _ _ (by exact hHeld.set (by simp) (by simp <;> omega) _) (fun hHeld => ?_)
              clear hK K
              refine wpAnyH_done (by kernel_rfl) ?_ _
              refine NoPanic.normal ?_
              have I9 := hHeld
              have C9 := HCC.out.push (w1 := w1.alloc (.cells #[.slice (some ⟨g1, 0, none⟩) 4 4, .slice none 0 0] 77)) (v := g1) (g := g) (cap := cap) (w2 := w2) (((Below.refl _ _).drew.trans (HB1.out.mono (Nat.le_refl _))).trans ((below_alloc1 w1 _).mono z1)) HG1.out (HG.out.more _) (by rw [HU.out]; exact OW.out) GW.out
              rw [HU.out] at C9
              have C10 := hide (C9.aside (p := ⟨w.heap.size + 1, 0, none⟩) (by simp only; omega) (.slice (some ⟨g, 0, none⟩) (k + 1) cap))
              have V9 := V3.put 0 (.slice (some ⟨g, 0, none⟩) (k + 1) cap)
              have HU9 : Hid ((us ++ [g1]).length = k + 1) := (by unfold Hid; rw [List.length_append, HU.out]; rfl)
              clear hHeld V3 q3 q1 q2 q4 V1 V2 C9 C1 C2 HCC
              go_wp2
              exact ⟨⟨k + 1, _, _, by omega, by go_num, V9, HU9, C10, I9⟩, by simp [intOf]; omega⟩
        · have hkn : k = m := by omega
          subst hkn
          clear hlt
          obtain ⟨xa, xn, xc, rfl⟩ := HCC.out.form
          have q0 := hV.one
          have q1 := (hI.nth 0 rfl).one
          have hL := hI.below
          have HF := hide ((HCC.out.aside (p := ⟨w.heap.size, 0, none⟩) (by simp only; omega) (.slice xa xn xc)).down (base' := w.heap.size) (by omega)).res
          have hxn : xn = k := by rw [HF.out.1, HU.out]
          subst hxn
          go_wp2
          refine bodyPost_ret (v := .agg #[.slice xa xn xc]) (by simp [results, Try.results11, go_sem, q1]) rfl ?_
          exact ⟨xa, xc, us, by rw [HC.out], by rw [HC.out, HU.out], HF.out.2, hL.setCell (by simp) _⟩

set_option maxRecDepth 100000 in
set_option maxHeartbeats 8000000 in
theorem specChainNew_any (n : Int) (w : World) : Calls Try.prog 13 #[.int .i64 n] w (NewC w n) := by
  obtain ⟨i0, hi0, hz0, hz1, hz2⟩ := info_parts node_info
  have I0 := hide hi0
  have I1 := hide hz0
  have I2 := hide hz1
  have I3 := hide hz2
  clear hi0 hz0 hz1 hz2
  by_cases h12 : 1 ≤ n ∧ n ≤ 4
  rotate_left
  · have HC : Hid (chN n = 0) := by unfold Hid chN; rw [if_neg h12]
    have HD := hide (decide_eq_false h12)
    have S0 := (Inv.start w).box 26 #[.slice none 0 0]
    have S1 := S0.box 26 #[.slice none 0 0]
    simp only [World.size_alloc] at S1
    clear S0
    go_enter Try.func13, Try.ntmps13
    go_wp2_with fail
    refine (l1In_any n 1 4 _).mono ?_
    rw [HD.out]
    rintro e w1 ⟨rfl, rfl⟩
    go_wp2
    refine bodyPost_ret (v := .agg #[.slice none 0 0]) (by simp [results, Try.results13, go_sem]) rfl ?_
    exact ⟨none, 0, [], by rw [HC.out], HC.out.symm, .inl rfl, below_alloc2 _ _ _⟩
  · obtain ⟨m, rfl⟩ : ∃ m : Nat, n = (m : Int) := ⟨n.toNat, by omega⟩
    have HC : Hid (chN (m : Int) = m) := by unfold Hid chN; rw [if_pos (by omega)]; simp
    have hm4 : m ≤ 4 := by omega
    have S0 := (Inv.start w).box 26 #[.slice none 0 0]
    have V0 := Blk.made (w.alloc (.cells #[.slice none 0 0] 26)) 26 #[.slice none 0 0]
    have S1 := S0.alloc (.cells #[.slice none 0 0] 26)
    simp only [World.size_alloc] at S1 V0
    have HC0 := hide (NwRow.start (w.heap.size + 1 + 1) ((w.alloc (.cells #[.slice none 0 0] 26)).alloc (.cells #[.slice none 0 0] 26)) (by simp))
    clear S0
    have HD := hide (decide_eq_true h12)
    go_enter Try.func13, Try.ntmps13
    go_wp2_with fail
    refine (l1In_any (m : Int) 1 4 _).mono ?_
    rw [HD.out]
    rintro e w1 ⟨rfl, rfl⟩
    go_wp2
    go_loopw [4] (fun i wr => ∃ (k : Nat) (x : Value) (us : List Nat), k ≤ m ∧ i = .int .i64 (k : Int) ∧ Blk wr (w.heap.size + 1) 26 #[x] ∧ Hid (us.length = k) ∧ Hid (NwRow (w.heap.size + 1 + 1) wr x us) ∧ Inv w (w.heap.size + 1) [(w.heap.size, 26, #[.slice none 0 0])] wr) (fun i _ => m - (intOf i).toNat)
    case atStart => exact ⟨0, _, [], Nat.zero_le _, rfl, V0, rfl, HC0.out, S1⟩
    case round =>
      obtain ⟨k, x, us, hk, rfl, hV, HU, HCC, hI⟩ := hrel
      clear S1 V0 HC0
      by_cases hlt : k < m
      · have i2 : (k : Int) < (m : Int) := by omega
        obtain ⟨xa, xn, xc, rfl⟩ := HCC.out.form
        have HV := hide (HCC.out.typed)
        have hlo := HCC.out.lo
        have V1 := hV.drew
        have q1 := V1.one.1
        have C1 := hide (HCC.out.on (Below.refl _ _).drew)
        go_wp2_with fail
        refine wp_region_noPanic ?_
        refine wp_region_held_drew (S := (fun w' => Inv w (w.heap.size + 1) [(w.heap.size, 26, #[.slice none 0 0])] w')) (by kernel_rfl) (by exact hI.drew) (fun hHeld => ?_)
        refine take_run 0 (some 15) (v := ?_) rfl rfl (by kernel_rfl) (by kernel_rfl) (by kernel_rfl) (fun _ _ _ h => h) (by rfl) ?_ hHeld ?_
        rotate_left
        · ((intro w hSw); (try dsimp only at hSw); go_simp <;> with_reducible rfl)
        simp only [Act.put, List.setIfInBounds_toArray, List.set_cons_zero, List.set_cons_succ]
        refine wpAnyH_ready (rs := [1, 2]) (by kernel_rfl) (by simp) ?_
        refine AllReadyH.cons rfl (fun K hK => ?_) (AllReadyH.cons rfl (fun K hK => ?_) AllReadyH.nil)
        · skip
          go_simp
          refine hK.out _ _ (by exact hHeld) (fun hHeld => ?_)
          clear hK K
          refine take_one 2 (by kernel_rfl) rfl (fun K hK => ?_)
          go_simp
          (refine (l2New_any _).mono ?_; rintro e w1 ⟨g1, rfl, hg1, hB1, hb1⟩; have C2 := hide (C1.out.on hb1); have V2 := V1.on hb1; have HG := hide hB1; have HG1 := hide (show wr.heap.size ≤ g1 by simpa using hg1); have z1 : wr.heap.size ≤ w1.heap.size := (by have := hb1.size; simpa using this); have HR := hide (show w1.ownsRow (w.heap.size + 1 + 1) 77 2 (.slice xa xn xc) k (flat2 us) by have := C2.out.row; rw [HU.out] at this; exact this); have HB1 := hide hb1; have q2 := V2.one.1; have q4 := (V2.more (.cells #[.slice (some ⟨g1, 0, none⟩) 4 4, .slice none 0 0] 77)).one.1)
          try go_wp2_with fail
          refine hK.out _ _ (by exact hHeld.on HB1.out) (fun hHeld => ?_)
          clear hK K
          refine take_run 3 (some 18) (v := ?_) rfl rfl (by kernel_rfl) (by kernel_rfl) (by kernel_rfl) (fun _ _ _ h => h) (by rfl) ?_ hHeld ?_
          rotate_left
          · ((intro w hSw); (try dsimp only at hSw); go_simp <;> with_reducible rfl)
          simp only [Act.put, List.setIfInBounds_toArray, List.set_cons_zero, List.set_cons_succ]
          refine take_one 4 (by kernel_rfl) rfl (fun K hK => ?_)
          go_simp
          refine hK.out _ _ (by exact hHeld.alloc _) (fun hHeld => ?_)
          clear hK K
          refine take_one 5 (by kernel_rfl) rfl (fun K hK => ?_)
          (refine step_append_lies _ (by rfl) _ _ _ (by rfl) (w.heap.size + 1 + 1) 77 i0 _ 2 48 Try.underlying24 I0.out I1.out I2.out I3.out rfl (by omega) (.slice xa xn xc) k (flat2 us) (by rfl) (HR.out.alloc _) ⟨w1.heap.size, 0, none⟩ 1 1 (cells2 g1) (by rfl) (by rfl) (World.news_of_block (cs := #[.slice (some ⟨g1, 0, none⟩) 4 4, .slice none 0 0]) (t := 77) (fr := (0, 0)) (heap_alloc_new w1 _)) (by simp [cells2, Value.oneCell']) (by omega) (by unfold maxLen; omega) (by omega) (by simp; omega) _ rfl ?_; intro g cap w2 hown2 hgrow hat hlt2; have V3 := (V2.more (.cells #[.slice (some ⟨g1, 0, none⟩) 4 4, .slice none 0 0] 77)).kept hgrow (by intro e; have hq := HV.out _ e; obtain ⟨_, _, h1, _⟩ := hq; omega); have q3 := V3.one; have OW := hide hown2; have GW := hide hgrow; clear hown2)
          simp only [List.getElem_toArray, List.getElem_cons_zero, List.getElem_cons_succ, Act.put, List.setIfInBounds_toArray, List.set_cons_zero, List.set_cons_succ]
          refine hK.out _ _ (by exact Inv.grow hHeld hgrow (fun g' e => by have hq := HV.out _ e; obtain ⟨_, _, h1, _⟩ := hq; omega)) (fun hHeld => ?_)
          clear hK K
          refine take_run 6 (some 21) (v := ?_) rfl rfl (by kernel_rfl) (by kernel_rfl) (by kernel_rfl) (fun _ _ _ h => h) (by rfl) ?_ hHeld ?_
          rotate_left
          · ((intro w hSw); (try dsimp only at hSw); go_simp <;> with_reducible rfl)
          simp only [Act.put, List.setIfInBounds_toArray, List.set_cons_zero, List.set_cons_succ]
          refine take_one 7 (by kernel_rfl) rfl (fun K hK => ?_)
          go_simp
          refine hK.out _ _ (by exact hHeld.set (by simp) (by simp <;> omega) _) (fun hHeld => ?_)
          clear hK K
          refine wpAnyH_done (by kernel_rfl) ?_ _
          refine NoPanic.normal ?_
          have I9 := hHeld
          have C9 := HCC.out.push (w1 := w1.alloc (.cells #[.slice (some ⟨g1, 0, none⟩) 4 4, .slice none 0 0] 77)) (v := g1) (g := g) (cap := cap) (w2 := w2) (((Below.refl _ _).drew.trans (HB1.out.mono (Nat.le_refl _))).trans ((below_alloc1 w1 _).mono z1)) HG1.out (HG.out.more _) (by rw [HU.out]; exact OW.out) GW.out
          rw [HU.out] at C9
          have C10 := hide (C9.aside (p := ⟨w.heap.size + 1, 0, none⟩) (by simp only; omega) (.slice (some ⟨g, 0, none⟩) (k + 1) cap))
          have V9 := V3.put 0 (.slice (some ⟨g, 0, none⟩) (k + 1) cap)
          have HU9 : Hid ((us ++ [g1]).length = k + 1) := (by unfold Hid; rw [List.length_append, HU.out]; rfl)
          clear hHeld V3 q3 q1 q2 q4 V1 V2 C9 C1 C2 HCC
          go_wp2
          exact ⟨⟨k + 1, _, _, by omega, by go_num, V9, HU9, C10, I9⟩, by simp [intOf]; omega⟩
        · skip
          go_simp
          (refine (l2New_any _).mono ?_; rintro e w1 ⟨g1, rfl, hg1, hB1, hb1⟩; have C2 := hide (C1.out.on hb1); have V2 := V1.on hb1; have HG := hide hB1; have HG1 := hide (show wr.heap.size ≤ g1 by simpa using hg1); have z1 : wr.heap.size ≤ w1.heap.size := (by have := hb1.size; simpa using this); have HR := hide (show w1.ownsRow (w.heap.size + 1 + 1) 77 2 (.slice xa xn xc) k (flat2 us) by have := C2.out.row; rw [HU.out] at this; exact this); have HB1 := hide hb1; have q2 := V2.one.1; have q4 := (V2.more (.cells #[.slice (some ⟨g1, 0, none⟩) 4 4, .slice none 0 0] 77)).one.1)
          try go_wp2_with fail
          refine hK.out _ _ (by exact hHeld.on HB1.out) (fun hHeld => ?_)
          clear hK K
          refine take_run 3 (some 18) (v := ?_) rfl rfl (by kernel_rfl) (by kernel_rfl) (by kernel_rfl) (fun _ _ _ h => h) (by rfl) ?_ hHeld ?_
          rotate_left
          · ((intro w hSw); (try dsimp only at hSw); go_simp <;> with_reducible rfl)
          simp only [Act.put, List.setIfInBounds_toArray, List.set_cons_zero, List.set_cons_succ]
          refine wpAnyH_ready (rs := [1, 4]) (by kernel_rfl) (by simp) ?_
          refine AllReadyH.cons rfl (fun K hK => ?_) (AllReadyH.cons rfl (fun K hK => ?_) AllReadyH.nil)
          · skip
            go_simp
            refine hK.out _ _ (by exact hHeld) (fun hHeld => ?_)
            clear hK K
            refine take_one 4 (by kernel_rfl) rfl (fun K hK => ?_)
            go_simp
            refine hK.out _ _ (by exact hHeld.alloc _) (fun hHeld => ?_)
            clear hK K
            refine take_one 5 (by kernel_rfl) rfl (fun K hK => ?_)
            (refine step_append_lies _ (by rfl) _ _ _ (by rfl) (w.heap.size + 1 + 1) 77 i0 _ 2 48 Try.underlying24 I0.out I1.out I2.out I3.out rfl (by omega) (.slice xa xn xc) k (flat2 us) (by rfl) (HR.out.alloc _) ⟨w1.heap.size, 0, none⟩ 1 1 (cells2 g1) (by rfl) (by rfl) (World.news_of_block (cs := #[.slice (some ⟨g1, 0, none⟩) 4 4, .slice none 0 0]) (t := 77) (fr := (0, 0)) (heap_alloc_new w1 _)) (by simp [cells2, Value.oneCell']) (by omega) (by unfold maxLen; omega) (by omega) (by simp; omega) _ rfl ?_; intro g cap w2 hown2 hgrow hat hlt2; have V3 := (V2.more (.cells #[.slice (some ⟨g1, 0, none⟩) 4 4, .slice none 0 0] 77)).kept hgrow (by intro e; have hq := HV.out _ e; obtain ⟨_, _, h1, _⟩ := hq; omega); have q3 := V3.one; have OW := hide hown2; have GW := hide hgrow; clear hown2)
            simp only [List.getElem_toArray, List.getElem_cons_zero, List.getElem_cons_succ, Act.put, List.setIfInBounds_toArray, List.set_cons_zero, List.set_cons_succ]
            refine hK.out _ _ (by exact Inv.grow hHeld hgrow (fun g' e => by have hq := HV.out _ e; obtain ⟨_, _, h1, _⟩ := hq; omega)) (fun hHeld => ?_)
            clear hK K
            refine take_run 6 (some 21) (v := ?_) rfl rfl (by kernel_rfl) (by kernel_rfl) (by kernel_rfl) (fun _ _ _ h => h) (by rfl) ?_ hHeld ?_
            rotate_left
            · ((intro w hSw); (try dsimp only at hSw); go_simp <;> with_reducible rfl)
            simp only [Act.put, List.setIfInBounds_toArray, List.set_cons_zero, List.set_cons_succ]
            refine take_one 7 (by kernel_rfl) rfl (fun K hK => ?_)
            go_simp
            refine hK.out _ _ (by exact hHeld.set (by simp) (by simp <;> omega) _) (fun hHeld => ?_)
            clear hK K
            refine wpAnyH_done (by kernel_rfl) ?_ _
            refine NoPanic.normal ?_
            have I9 := hHeld
            have C9 := HCC.out.push (w1 := w1.alloc (.cells #[.slice (some ⟨g1, 0, none⟩) 4 4, .slice none 0 0] 77)) (v := g1) (g := g) (cap := cap) (w2 := w2) (((Below.refl _ _).drew.trans (HB1.out.mono (Nat.le_refl _))).trans ((below_alloc1 w1 _).mono z1)) HG1.out (HG.out.more _) (by rw [HU.out]; exact OW.out) GW.out
            rw [HU.out] at C9
            have C10 := hide (C9.aside (p := ⟨w.heap.size + 1, 0, none⟩) (by simp only; omega) (.slice (some ⟨g, 0, none⟩) (k + 1) cap))
            have V9 := V3.put 0 (.slice (some ⟨g, 0, none⟩) (k + 1) cap)
            have HU9 : Hid ((us ++ [g1]).length = k + 1) := (by unfold Hid; rw [List.length_append, HU.out]; rfl)
            clear hHeld V3 q3 q1 q2 q4 V1 V2 C9 C1 C2 HCC
            go_wp2
            exact ⟨⟨k + 1, _, _, by omega, by go_num, V9, HU9, C10, I9⟩, by simp [intOf]; omega⟩
          · skip
            go_simp
            refine hK.out _ _ (by exact hHeld.alloc _) (fun hHeld => ?_)
            clear hK K
            refine take_one 1 (by kernel_rfl) rfl (fun K hK => ?_)
            go_simp
            refine hK.out _ _ (by exact hHeld) (fun hHeld => ?_)
            clear hK K
            refine take_one 5 (by kernel_rfl) rfl (fun K hK => ?_)
            (refine step_append_lies _ (by rfl) _ _ _ (by rfl) (w.heap.size + 1 + 1) 77 i0 _ 2 48 Try.underlying24 I0.out I1.out I2.out I3.out rfl (by omega) (.slice xa xn xc) k (flat2 us) (by rfl) (HR.out.alloc _) ⟨w1.heap.size, 0, none⟩ 1 1 (cells2 g1) (by rfl) (by rfl) (World.news_of_block (cs := #[.slice (some ⟨g1, 0, none⟩) 4 4, .slice none 0 0]) (t := 77) (fr := (0, 0)) (heap_alloc_new w1 _)) (by simp [cells2, Value.oneCell']) (by omega) (by unfold maxLen; omega) (by omega) (by simp; omega) _ rfl ?_; intro g cap w2 hown2 hgrow hat hlt2; have V3 := (V2.more (.cells #[.slice (some ⟨g1, 0, none⟩) 4 4, .slice none 0 0] 77)).kept hgrow (by intro e; have hq := HV.out _ e; obtain ⟨_, _, h1, _⟩ := hq; omega); have q3 := V3.one; have OW := hide hown2; have GW := hide hgrow; clear hown2)
            simp only [List.getElem_toArray, List.getElem_cons_zero, List.getElem_cons_succ, Act.put, List.setIfInBounds_toArray, List.set_cons_zero, List.set_cons_succ]
            refine hK.out _ _ (by exact Inv.grow hHeld hgrow (fun g' e => by have hq := HV.out _ e; obtain ⟨_, _, h1, _⟩ := hq; omega)) (fun hHeld => ?_)
            clear hK K
            refine take_run 6 (some 21) (v := ?_) rfl rfl (by kernel_rfl) (by kernel_rfl) (by kernel_rfl) (fun _ _ _ h => h) (by rfl) ?_ hHeld ?_
            rotate_left
            · ((intro w hSw); (try dsimp only at hSw); go_simp <;> with_reducible rfl)
            simp only [Act.put, List.setIfInBounds_toArray, List.set_cons_zero, List.set_cons_succ]
            refine take_one 7 (by kernel_rfl) rfl (fun K hK => ?_)
            go_simp
            refine hK.out _ _ (by exact hHeld.set (by simp) (by simp <;> omega) _) (fun hHeld => ?_)
            clear hK K
            refine wpAnyH_done (by kernel_rfl) ?_ _
            refine NoPanic.normal ?_
            have I9 := hHeld
            have C9 := HCC.out.push (w1 := w1.alloc (.cells #[.slice (some ⟨g1, 0, none⟩) 4 4, .slice none 0 0] 77)) (v := g1) (g := g) (cap := cap) (w2 := w2) (((Below.refl _ _).drew.trans (HB1.out.mono (Nat.le_refl _))).trans ((below_alloc1 w1 _).mono z1)) HG1.out (HG.out.more _) (by rw [HU.out]; exact OW.out) GW.out
            rw [HU.out] at C9
            have C10 := hide (C9.aside (p := ⟨w.heap.size + 1, 0, none⟩) (by simp only; omega) (.slice (some ⟨g, 0, none⟩) (k + 1) cap))
            have V9 := V3.put 0 (.slice (some ⟨g, 0, none⟩) (k + 1) cap)
            have HU9 : Hid ((us ++ [g1]).length = k + 1) := (by unfold Hid; rw [List.length_append, HU.out]; rfl)
            clear hHeld V3 q3 q1 q2 q4 V1 V2 C9 C1 C2 HCC
            go_wp2
            exact ⟨⟨k + 1, _, _, by omega, by go_num, V9, HU9, C10, I9⟩, by simp [intOf]; omega⟩
      · have hkn : k = m := by omega
        subst hkn
        clear hlt
        obtain ⟨xa, xn, xc, rfl⟩ := HCC.out.form
        have q0 := hV.one
        have q1 := (hI.nth 0 rfl).one
        have hL := hI.below
        have HF := hide ((HCC.out.aside (p := ⟨w.heap.size, 0, none⟩) (by simp only; omega) (.slice xa xn xc)).down (base' := w.heap.size) (by omega)).res
        have hxn : xn = k := by rw [HF.out.1, HU.out]
        subst hxn
        go_wp2
        refine bodyPost_ret (v := .agg #[.slice xa xn xc]) (by simp [results, Try.results13, go_sem, q1]) rfl ?_
        exact ⟨xa, xc, us, by rw [HC.out], by rw [HC.out, HU.out], HF.out.2, hL.setCell (by simp) _⟩
end Go.Proofs.Ytpelibkdphgpjaa
/- Chains that a call answers: compared, marked, and the marks found again. Condition: what is said of each. -/
namespace Go.Proofs.Ytpelibkdphgpjaa
open Go.RowKit Go.Joins
attribute [local go_sem ↓] Go.wp_at_zero Go.wp_at_succ

/-- A slice of nodes that a call has made: none, or in blocks of its own from B on and below U. -/
def ResN (w : World) (B U : Nat) (A : Option Addr) (ns : List Nd) : Prop := ns = [] ∨ ∃ G cur, A = some ⟨G, 0, none⟩ ∧ NRow w B U G ns cur
theorem NRow.range {w : World} {B U G : Nat} {ns : List Nd} {cur : Array Value} (h : NRow w B U G ns cur) {i : Nat} {n : Nd} (hi : ns[i]? = some n) {g : Nat} (hf : FootN n g) : B ≤ g ∧ g < U := by
  rcases hf with hf | hf
  · obtain ⟨_, _, _, _, h1⟩ := (h.store i n hi).typed hf
    exact h1
  · obtain ⟨_, _, _, _, h1⟩ := (h.wait i n hi).typed hf
    exact h1
theorem ResN.turn {P : Nat → Prop} {w w' : World} {B U : Nat} {A : Option Addr} {ns : List Nd} (h : ResN w B U A ns) (ht : Turn P w w') (hp : ∀ g, B ≤ g → g < U → ¬ P g) : ResN w' B U A ns := by
  rcases h with h | ⟨G, cur, h1, h2⟩
  · exact .inl h
  · exact .inr ⟨G, cur, h1, h2.turned ht (hp G h2.lo h2.hi) (fun i n hi g hf => hp g (h2.range hi hf).1 (h2.range hi hf).2)⟩
theorem ResN.on {w w' : World} {B U : Nat} {A : Option Addr} {ns : List Nd} (h : ResN w B U A ns) (hb : Below w.heap.size w w') : ResN w' B U A ns := h.turn (P := fun _ => False) (.below hb) (fun _ _ _ h => h)
theorem ResN.alloc {w : World} {B U : Nat} {A : Option Addr} {ns : List Nd} (h : ResN w B U A ns) (o : Obj) : ResN (w.alloc o) B U A ns := h.on (below_alloc1 w o)
theorem ResC.n {w : World} {B U : Nat} {A : Option Addr} {gs : List Nat} (h : ResC w B U A gs) : ResN w B U A (gs.map nd0) := by
  rcases h with h | h
  · exact .inl (by rw [h]; rfl)
  · exact .inr h
theorem nd0_at {gs : List Nat} {i : Nat} {y : Nd} (hy : (gs.map nd0)[i]? = some y) : ∃ g, y = nd0 g := by
  rw [List.getElem?_map] at hy
  cases hx : gs[i]? with
  | none => rw [hx] at hy; cases hy
  | some x =>
    rw [hx] at hy
    simp only [Option.map_some] at hy
    injection hy with hy
    exact ⟨x, hy.symm⟩
theorem nd0_like {gs gs' : List Nat} : ∀ (i : Nat) v v', (gs.map nd0)[i]? = some v → (gs'.map nd0)[i]? = some v' → Nd.like v v' := fun i v v' h h' => by
  obtain ⟨g, rfl⟩ := nd0_at h
  obtain ⟨g', rfl⟩ := nd0_at h'
  exact ⟨rfl, like0, rfl, fun i v v' hi => by simp [nd0] at hi⟩
theorem nd0_small (gs : List Nat) : SmallN (gs.map nd0) := fun y hy => by
  obtain ⟨i, hi⟩ := List.getElem?_of_mem hy
  obtain ⟨g, rfl⟩ := nd0_at hi
  refine ⟨by simp [nd0], by simp [nd0], fun v hv => ?_, fun v hv => by simp [nd0] at hv⟩
  have : v = v0 := by simpa [nd0] using hv
  rw [this]
  simp [v0]
theorem nd0_wt (gs : List Nat) : wtNs (gs.map nd0) = 20 * (gs.length : Int) := by
  induction gs with
  | nil => simp [wtNs]
  | cons g r ih =>
    have : wtN (nd0 g) = 20 := by simp [wtN, wts, nd0, wt, v0]
    unfold wtNs at *
    simp [this] at *
    omega
set_option maxHeartbeats 2000000 in
theorem eqChain_same (B U B' U' : Nat) (A A' : Option Addr) (c c' n : Nat) (ns us : List Nd) (w : World) (hn : n ≤ 1048576) (hvn : ns.length = n) (hun : us.length = n)
    (hlike : ∀ (i : Nat) v v', ns[i]? = some v → us[i]? = some v' → Nd.like v v') (hm : SmallN ns) (hv : ResN w B U A ns) (hu : ResN w B' U' A' us) :
    Calls Try.prog 21 #[.agg #[.slice A n c], .agg #[.slice A' n c']] w fun e w' => e = .returned (.bool true) ∧ Below w.heap.size w w' := by
  have S0 := ((Inv.start w).box 26 #[.slice A n c]).box 26 #[.slice A' n c']
  simp only [World.size_alloc] at S0
  have HC : Hid (∀ W, Below w.heap.size w W → Calls Try.prog 57 #[.slice A n c, .slice A' n c'] W fun e w' => e = .returned (.bool true) ∧ Below W.heap.size W w') := fun W hW => by
    by_cases h0 : n = 0
    · subst h0
      exact (eqNodeS_nil A A' c c' W).mono fun e w' ⟨h1, h2⟩ => ⟨h1, by rw [← h2]; exact Below.refl _ _⟩
    · rcases hv with h | ⟨G, cur, rfl, hv⟩
      · rw [h] at hvn; exact absurd hvn.symm h0
      · rcases hu with h | ⟨G', cur', rfl, hu⟩
        · rw [h] at hun; exact absurd hun.symm h0
        · exact eqNodeS_same B U G c B' U' G' c' n ns us cur cur' W hn hvn hun hlike hm (hv.on hW) (hu.on hW)
  clear hlike hm hv hu hvn hun
  go_enter Try.func21, Try.ntmps21
  go_wp2_with fail
  refine (HC.out _ S0.below).mono ?_
  rintro e w1 ⟨rfl, hb1⟩
  have S1 := S0.on hb1
  clear S0
  go_wp2
  go_ret
  exact ⟨rfl, S1.below⟩
set_option maxHeartbeats 2000000 in
theorem markChain_any (B U : Nat) (A : Option Addr) (c n : Nat) (ns : List Nd) (k : Int) (w : World) (hR : ResN w B U A ns) (hl : ns.length = n) (hm : SmallN ns) (hn : n ≤ 1048576) (hk0 : 1 ≤ k) (hk : k + wtNs ns ≤ 8388000) :
    Calls Try.prog 27 #[.agg #[.slice A n c], .int .i64 k] w fun e w' => e = .returned (.int .i64 (k + wtNs ns)) ∧ ResN w' B U A (mkNs k ns) ∧ Turn (fun g => B ≤ g ∧ g < U) w w' := by
  have L0 := below_alloc1 w (.cells #[.slice A n c] 26)
  have HC : Hid (∀ W, Below w.heap.size w W → Calls Try.prog 70 #[.slice A n c, .int .i64 k] W fun e w' => e = .returned (.int .i64 (k + wtNs ns)) ∧ ResN w' B U A (mkNs k ns) ∧ Turn (fun g => B ≤ g ∧ g < U) w w') := fun W hW => by
    by_cases h0 : ns = []
    · subst h0
      simp only [List.length_nil] at hl
      subst hl
      exact (markNodeS_nil A c k W).mono fun e w' ⟨h1, h2⟩ => ⟨by rw [h1]; simp [wtNs], .inl rfl, by rw [← h2]; exact .below hW⟩
    · rcases hR with h | ⟨G, cur, rfl, hv⟩
      · exact absurd h h0
      · subst hl
        exact (markNodeS_foot B U G c ns cur k W (hv.on hW) hm hn hk0 hk).mono fun e w' ⟨h1, ⟨cur', h2⟩, h3⟩ => ⟨h1, .inr ⟨G, cur', rfl, h2⟩, Turn.trans (.below hW) ⟨h3.os, h3.tape, h3.output, h3.size, fun i hi hn => h3.block i hi (fun ⟨j, x, hj, hf⟩ => hn (hv.range hj hf))⟩⟩
  clear hR hl hm hk
  go_enter Try.func27, Try.ntmps27
  go_wp2_with fail
  refine (HC.out _ L0).mono ?_
  rintro e w1 ⟨rfl, hb1, hT⟩
  have H1 := hide hb1
  have H2 := hide hT
  clear hb1 hT
  go_wp2
  go_ret
  exact ⟨rfl, H1.out, H2.out⟩
set_option maxHeartbeats 2000000 in
theorem heldChain_any (B U : Nat) (A : Option Addr) (c n : Nat) (ns : List Nd) (k : Int) (w : World) (hR : ResN w B U A (mkNs k ns)) (hl : ns.length = n) (hm : SmallN ns) (hn : n ≤ 1048576) (hk0 : 1 ≤ k) (hk : k + wtNs ns ≤ 8388000) :
    Calls Try.prog 29 #[.agg #[.slice A n c], .int .i64 k] w fun e w' => e = .returned (.int .i64 (k + wtNs ns)) ∧ Below w.heap.size w w' := by
  have L0 := below_alloc1 w (.cells #[.slice A n c] 26)
  have hp : ¬ (k + wtNs ns < 0) := by have := wtNs_pos ns; omega
  have HC : Hid (∀ W, Below w.heap.size w W → Calls Try.prog 71 #[.slice A n c, .int .i64 k] W fun e w' => e = .returned (.int .i64 (k + wtNs ns)) ∧ Below W.heap.size W w') := fun W hW => by
    by_cases h0 : ns = []
    · subst h0
      simp only [List.length_nil] at hl
      subst hl
      exact (heldNodeS_nil A c k W).mono fun e w' ⟨h1, h2⟩ => ⟨by rw [h1]; simp [wtNs], by rw [← h2]; exact Below.refl _ _⟩
    · rcases hR with h | ⟨G, cur, rfl, hv⟩
      · have := mkNs_len k ns
        rw [h] at this
        exact absurd (List.length_eq_zero_iff.1 this.symm) h0
      · subst hl
        exact heldNodeS_any B U G c ns cur k W (hv.on hW) hm hn hk0 hk
  clear hR hl hm hk
  go_enter Try.func29, Try.ntmps29
  go_wp2_with fail
  refine (HC.out _ L0).mono ?_
  rintro e w1 ⟨rfl, hb1⟩
  have H1 := hide (L0.trans (hb1.mono L0.size))
  clear hb1 L0
  go_wp2
  go_ret
  exact ⟨rfl, H1.out⟩
end Go.Proofs.Ytpelibkdphgpjaa
/- Contracts of the program's links: a node at its place in a chain, and the way to the next one. Condition: a chain's nodes, none or from the beginning of a block. -/
namespace Go.Proofs.Ytpelibkdphgpjaa
open Go.RowKit Go.Joins
attribute [local go_sem ↓] Go.wp_at_zero Go.wp_at_succ

/-- The link of node k as it lies in memory, in blocks from B on. -/
def LinkAt (w : World) (B L : Nat) (A : Option Addr) (G n c k : Nat) : Prop :=
  ∃ b1 b2 : Nat, B ≤ L ∧ B ≤ b1 ∧ B ≤ b2 ∧ Blk w L 87 #[.pointer (some ⟨G, k * 2, none⟩), .func (.func 88) #[] #[.pointer (some ⟨b1, 0, none⟩), .pointer (some ⟨b2, 0, none⟩)]] ∧ Blk w b1 24 #[.slice A n c] ∧ Blk w b2 3 #[.int .i64 (k : Int)]
theorem LinkAt.on {w w' : World} {B L G n c k : Nat} {A : Option Addr} (h : LinkAt w B L A G n c k) (hb : Below w.heap.size w w') : LinkAt w' B L A G n c k := by
  obtain ⟨b1, b2, h1, h2, h3, h4, h5, h6⟩ := h
  exact ⟨b1, b2, h1, h2, h3, h4.on hb, h5.on hb, h6.on hb⟩
theorem LinkAt.low {w : World} {B B' L G n c k : Nat} {A : Option Addr} (h : LinkAt w B L A G n c k) (hb : B' ≤ B) : LinkAt w B' L A G n c k := by
  obtain ⟨b1, b2, h1, h2, h3, h4, h5, h6⟩ := h
  exact ⟨b1, b2, by omega, by omega, by omega, h4, h5, h6⟩
/-- What linkAt leaves: nothing behind the last node, else a link. -/
def LinkEnd (w : World) (A : Option Addr) (G n c k : Nat) (e : Ending) (w' : World) : Prop :=
  (if k < n then ∃ L, e = .returned (.pointer (some ⟨L, 0, none⟩)) ∧ LinkAt w' w.heap.size L A G n c k else e = .returned (.pointer none)) ∧ Below w.heap.size w w'
set_option maxRecDepth 100000 in
set_option maxHeartbeats 2000000 in
theorem linkAt_any (G n c k : Nat) (w : World) (_hn : n ≤ 1048576) (hk : k ≤ 1048576) :
    Calls Try.prog 49 #[.slice (some ⟨G, 0, none⟩) n c, .int .i64 (k : Int)] w (LinkEnd w (some ⟨G, 0, none⟩) G n c k) := by
  have hmf : ∀ (fn : Fn) (first cap : Array Value) (w : World), (Instr.makeFunc fn first cap).run Try.prog w = .ok (.func fn first cap) w := fun _ _ _ _ => rfl
  have h0 : ¬ ((k : Int) < 0) := by omega
  have S0 := ((Inv.start w).box 24 #[.slice (some ⟨G, 0, none⟩) n c]).box 3 #[.int .i64 (k : Int)]
  simp only [World.size_alloc] at S0
  by_cases hlt : k < n
  · have h1 : ¬ ((k : Int) ≥ (n : Int)) := by omega
    have h2 : (k : Int) < (n : Int) := by omega
    have i1 : (0 : Int) ≤ (k : Int) := by omega
    go_enter Try.func49, Try.ntmps49
    go_wp2
    go_ret
    have S1 := (((Inv.start w).box 24 #[.slice (some ⟨G, 0, none⟩) n c]).box 3 #[.int .i64 (k : Int)]).box 87 #[.pointer (some ⟨G, k * 2, none⟩), .func (.func 88) #[] #[.pointer (some ⟨w.heap.size, 0, none⟩), .pointer (some ⟨w.heap.size + 1, 0, none⟩)]]
    simp only [World.size_alloc] at S1
    refine ⟨?_, S1.below⟩
    rw [if_pos hlt]
    exact ⟨w.heap.size + 1 + 1, rfl, w.heap.size, w.heap.size + 1, by omega, by omega, by omega, S1.nth 0 rfl, S1.nth 2 rfl, S1.nth 1 rfl⟩
  · have h1 : (k : Int) ≥ (n : Int) := by omega
    have h2 : ¬ ((k : Int) < (n : Int)) := by omega
    go_enter Try.func49, Try.ntmps49
    go_wp2
    go_ret
    exact ⟨by rw [if_neg hlt]; rfl, S0.below⟩
set_option maxRecDepth 100000 in
set_option maxHeartbeats 2000000 in
/-- The way to the next one. -/
theorem next_any (G n c k b1 b2 : Nat) (w : World) (hn : n ≤ 1048576) (hk : k ≤ 1048575) (h1 : Blk w b1 24 #[.slice (some ⟨G, 0, none⟩) n c]) (h2 : Blk w b2 3 #[.int .i64 (k : Int)]) :
    Calls Try.prog 88 #[.pointer (some ⟨b1, 0, none⟩), .pointer (some ⟨b2, 0, none⟩)] w (LinkEnd w (some ⟨G, 0, none⟩) G n c (k + 1)) := by
  have q1 := h1.one.1
  have q2 := h2.one.1
  go_enter Try.func88, Try.ntmps88
  go_wp2_with fail
  have e1 : (k : Int) + 1 = ((k + 1 : Nat) : Int) := by omega
  have CT := linkAt_any G n c (k + 1) w hn (by omega)
  rw [← e1] at CT
  clear e1
  with_reducible refine CT.mono ?_
  clear CT
  rintro e w1 ⟨hE, hb⟩
  have HE := hide hE
  have HB := hide hb
  clear hE hb
  by_cases hlt : k + 1 < n
  · have hq := HE.out
    rw [if_pos hlt] at hq
    obtain ⟨L, rfl, hL⟩ := hq
    have HLL := hide hL
    clear hL
    go_wp2
    go_ret
    exact ⟨by rw [if_pos hlt]; exact ⟨L, rfl, HLL.out⟩, HB.out⟩
  · have hq := HE.out
    rw [if_neg hlt] at hq
    subst hq
    go_wp2
    go_ret
    exact ⟨by rw [if_neg hlt]; rfl, HB.out⟩
end Go.Proofs.Ytpelibkdphgpjaa
