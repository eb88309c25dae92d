/- Rows of nodes as they grow; contracts of copies of nodes and chains, in the program. Condition: sizes that memory holds. -/
import Derived.Test.YtnaggcdhimcilaaGreatJLogs
namespace Go.Proofs.YtnaggcdhimcilaaGreat
open Go.RowKit Go.Joins
attribute [local go_sem ↓] Go.wp_at_zero Go.wp_at_succ

/-- The cells of a row of nodes. -/
def cellsN (n : Nd) : List Value := [.slice n.sa n.ss.length n.sc, .slice n.wa n.ws.length n.wc]
def flatN (us : List Nd) : List Value := us.flatMap cellsN
theorem flatN_snoc (us : List Nd) (v : Nd) : flatN (us ++ [v]) = flatN us ++ cellsN v := by simp [flatN]
theorem flatN_at : ∀ (us : List Nd) (i : Nat) (v : Nd) (m : Nat), us[i]? = some v → m < 2 → (flatN us)[i * 2 + m]? = (cellsN v)[m]?
  | [], i, v, m, h, _ => by simp at h
  | x :: r, 0, v, m, h, hm => by
    simp at h
    subst h
    have e : flatN (x :: r) = cellsN x ++ flatN r := by simp [flatN]
    rw [e, Nat.zero_mul, Nat.zero_add, List.getElem?_append_left (by simp [cellsN]; omega)]
  | x :: r, i + 1, v, m, h, hm => by
    have e : flatN (x :: r) = cellsN x ++ flatN r := by simp [flatN]
    have h6 : (cellsN x).length = 2 := rfl
    rw [e, List.getElem?_append_right (by omega), h6]
    have : (i + 1) * 2 + m - 2 = i * 2 + m := by omega
    rw [this]
    exact flatN_at r i v m (by simpa using h) hm
theorem ndAtN_of {cur : Array Value} {us : List Nd} {n : Nat} (h : cur.toList.take n = flatN us) (i : Nat) (v : Nd) (hi : us[i]? = some v) : NdAt cur i v := by
  have key : ∀ m, m < 2 → cur[i * 2 + m]? = (cellsN v)[m]? := by
    intro m hm
    have h1 := flatN_at us i v m hi hm
    rw [← h] at h1
    have h2 : ∃ u, (cellsN v)[m]? = some u := ⟨_, List.getElem?_eq_getElem (by simp [cellsN]; omega)⟩
    obtain ⟨u, hu⟩ := h2
    rw [hu] at h1 ⊢
    obtain ⟨hl, _⟩ := List.getElem?_eq_some_iff.1 h1
    rw [List.length_take] at hl
    rw [List.getElem?_take_of_lt (by omega)] at h1
    simpa using h1
  exact ⟨key 0 (by omega), key 1 (by omega)⟩
theorem CRow.turned {P : Nat → Prop} {base : Nat} {wr w2 : World} {x : Value} {us : List V} (h : CRow base wr x us) (ht : Turn P wr w2) (hx : ∀ g, x.ownBlock = some g → ¬ P g) (hf : ∀ (i : Nat) v, us[i]? = some v → ∀ g, v.a = some ⟨g, 0, none⟩ → base ≤ g → v.ts ≠ [] → ¬ P g) : CRow base w2 x us := by
  refine ⟨⟨h.row.1, ?_⟩, fun i v hi => ((h.own i v hi).turned ht (fun g hg hb _ hne => hf i v hi g hg hb hne)).wide ht.size, h.apart, Nat.le_trans h.lo ht.size⟩
  rcases h.row.2 with h' | ⟨g, cap, cr, h1, h2, h3, h4⟩
  · exact .inl h'
  · exact .inr ⟨g, cap, cr, h1, h2, Blk.turned (show Blk wr g 96 cr from h3) ht (hx g (by rw [h1]; rfl)), h4⟩
/-- A row of versions is kept where nothing turns but blocks that hold neither versions nor tags. -/
theorem CRow.turnedT {P : Nat → Prop} {base : Nat} {wr w2 : World} {x : Value} {us : List V} (h : CRow base wr x us) (ht : Turn P wr w2) (hP : ∀ g, P g → ∃ T cs, Blk wr g T cs ∧ T ≠ 96 ∧ T ≠ 91) : CRow base w2 x us :=
  h.turned ht (fun g hg hp => by
    obtain ⟨cs, h1, _⟩ := h.typed g hg
    obtain ⟨T, cs', h2, h3, _⟩ := hP g hp
    exact h3 (blk_one h2 h1)) (fun i v hi g hg _ hne hp => by
    obtain ⟨T, cs', h2, _, h3⟩ := hP g hp
    rcases h.own i v hi with q | ⟨g', c', e1, _, _, q3, _⟩
    · exact absurd q hne
    · rw [hg] at e1
      injection e1 with e1
      injection e1 with e1
      subst e1
      exact h3 (blk_one h2 q3))
/-- The blocks of what waits at a node, that of its slice among them though nothing waits; the blocks of a node. -/
def FootW (n : Nd) (g : Nat) : Prop := FootS n.wa n.ws g ∨ (Value.slice n.wa n.ws.length n.wc).ownBlock = some g
def FootO (n : Nd) (g : Nat) : Prop := FootS n.sa n.ss g ∨ FootW n g
theorem footN_O {n : Nd} {g : Nat} (h : FootN n g) : FootO n g := by
  rcases h with h | h
  · exact .inl h
  · exact .inr (.inl h)
/-- A row of nodes as it grows. -/
structure GRow (base : Nat) (wr : World) (x : Value) (us : List Nd) : Prop where
  row : wr.ownsRow base 90 2 x us.length (flatN us)
  store : ∀ (i : Nat) n, us[i]? = some n → ResS wr base wr.heap.size n.sa n.ss
  wait : ∀ (i : Nat) n, us[i]? = some n → ResS wr base wr.heap.size n.wa n.ws
  two : ∀ (i : Nat) n, us[i]? = some n → ∀ g, FootS n.sa n.ss g → ¬ FootW n g
  apart : ∀ (i j : Nat) n n', i ≠ j → us[i]? = some n → us[j]? = some n' → ∀ g, FootO n g → ¬ FootO n' g
  lo : base ≤ wr.heap.size
  own : ∀ (i : Nat) n, us[i]? = some n → CRow base wr (.slice n.wa n.ws.length n.wc) n.ws
theorem GRow.start (base : Nat) (w : World) (h : base ≤ w.heap.size) : GRow base w (.slice none 0 0) [] :=
  ⟨World.ownsRow_nil _ _ _ _, fun i v h => by simp at h, fun i v h => by simp at h, fun i v h => by simp at h, fun i j v v' _ h => by simp at h, h, fun i v h => by simp at h⟩
theorem GRow.typed {base : Nat} {wr : World} {x : Value} {us : List Nd} (h : GRow base wr x us) (r : Nat) (hr : x.ownBlock = some r) : ∃ cs, Blk wr r 90 cs ∧ base ≤ r ∧ r < wr.heap.size := by
  rcases h.row.2 with ⟨rfl, _⟩ | ⟨g', cap, cr, rfl, hg', hb', _⟩
  · simp [Value.ownBlock] at hr
  · simp [Value.ownBlock] at hr
    subst hr
    exact ⟨cr, hb', hg', Blk.inside hb'⟩
theorem GRow.form {base : Nat} {wr : World} {x : Value} {us : List Nd} (h : GRow base wr x us) : ∃ A c, x = .slice A us.length c := by
  rcases h.row.2 with ⟨rfl, e⟩ | ⟨g', cap, cr, rfl, hg', hb', _⟩
  · exact ⟨none, 0, by rw [show us.length = 0 by omega]⟩
  · exact ⟨_, _, rfl⟩
theorem GRow.on {base : Nat} {wr w2 : World} {x : Value} {us : List Nd} (h : GRow base wr x us) (hb : Below wr.heap.size wr w2) : GRow base w2 x us :=
  ⟨World.ownsRow.kept h.row (grown_none (row := none) hb) (Classical.em _), fun i v hi => ((h.store i v hi).on hb).wide hb.size, fun i v hi => ((h.wait i v hi).on hb).wide hb.size, h.two, h.apart, Nat.le_trans h.lo hb.size, fun i v hi => (h.own i v hi).on hb⟩
theorem GRow.foot {base : Nat} {wr : World} {x : Value} {us : List Nd} (h : GRow base wr x us) {i : Nat} {n : Nd} (hi : us[i]? = some n) {g : Nat} (hf : FootO n g) : base ≤ g ∧ g < wr.heap.size := by
  rcases hf with hf | hf | hf
  · exact (h.store i n hi).foot hf
  · exact (h.wait i n hi).foot hf
  · obtain ⟨_, _, h1⟩ := (h.own i n hi).typed g hf
    exact h1
theorem GRow.aside {base : Nat} {wr : World} {x : Value} {us : List Nd} (h : GRow base wr x us) {p : Addr} (hp : p.block < base) (u : Value) : GRow base (wr.setCell p u) x us := by
  have hz : (wr.setCell p u).heap.size = wr.heap.size := by simp [World.setCell]
  have ht : Turn (fun g => g = p.block) wr (wr.setCell p u) := (Turn.refl (fun g => g = p.block) wr).set (p := p) rfl u
  refine ⟨ownsRow_setCell_below h.row hp u, fun i v hi => ?_, fun i v hi => ?_, h.two, h.apart, by rw [hz]; exact h.lo, fun i v hi => (h.own i v hi).turned ht (fun g hg e => by obtain ⟨_, _, h1, _⟩ := (h.own i v hi).typed g hg; omega) (fun _ _ _ g _ h1 _ e => by omega)⟩
  · rw [hz]
    exact (h.store i v hi).set (.inl hp) u
  · rw [hz]
    exact (h.wait i v hi).set (.inl hp) u
theorem GRow.down {base base' : Nat} {wr : World} {x : Value} {us : List Nd} (h : GRow base wr x us) (hb : base' ≤ base) : GRow base' wr x us :=
  ⟨⟨h.row.1, by
    rcases h.row.2 with h | ⟨g, cap, cr, h1, h2, h3⟩
    · exact .inl h
    · exact .inr ⟨g, cap, cr, h1, by omega, h3⟩⟩, fun i v hi => (h.store i v hi).low hb, fun i v hi => (h.wait i v hi).low hb, h.two, h.apart, by have := h.lo; omega, fun i v hi => (h.own i v hi).down hb⟩
/-- One node more. -/
theorem GRow.push {base : Nat} {wr w1 w2 : World} {x : Value} {us : List Nd} {v : Nd} {g cap : Nat} (h : GRow base wr x us) (hb : Below wr.heap.size wr w1) (hs : ResS w1 wr.heap.size w1.heap.size v.sa v.ss) (hw : ResS w1 wr.heap.size w1.heap.size v.wa v.ws) (h2 : ∀ g, FootS v.sa v.ss g → ¬ FootW v g) (hc : CRow wr.heap.size w1 (.slice v.wa v.ws.length v.wc) v.ws)
    (hown : w2.ownsRow base 90 2 (.slice (some ⟨g, 0, none⟩) (us.length + 1) cap) (us.length + 1) (flatN us ++ cellsN v)) (hg : w1.grownBy w2 x.ownBlock) : GRow base w2 (.slice (some ⟨g, 0, none⟩) (us.length + 1) cap) (us ++ [v]) := by
  have ht : Turn (fun g => x.ownBlock = some g) w1 w2 := .of hg (fun g e => e)
  have hk : ∀ {B U : Nat} {A : Option Addr} {l : List V}, ResS w1 B U A l → ResS w2 B U A l := fun hr => hr.turnF ht (fun y hf e => by
    obtain ⟨cs, h1, _⟩ := h.typed y e
    obtain ⟨T, cs', h3, h4, _⟩ := hr.typed hf
    exact h4 (blk_one h3 (h1.on hb)))
  have hq : ∀ {B : Nat} {y : Value} {l : List V}, CRow B w1 y l → CRow B w2 y l := fun hr => hr.turnedT ht (fun g e => by
    obtain ⟨cs, h1, _⟩ := h.typed g e
    exact ⟨_, cs, h1.on hb, node_ne_ver, node_ne_tag⟩)
  have zb := h.lo
  have z1 := hb.size
  have z2 := hg.size
  have hnew : ∀ g, FootO v g → wr.heap.size ≤ g := fun g hf => by
    rcases hf with hf | hf | hf
    · exact (hs.foot hf).1
    · exact (hw.foot hf).1
    · obtain ⟨_, _, h1, _⟩ := hc.typed g hf
      exact h1
  refine ⟨by simpa [flatN_snoc] using hown, fun i y hy => ?_, fun i y hy => ?_, fun i y hy => ?_, fun i j y y' hne hy hy' => ?_, by omega, fun i y hy => ?_⟩
  · rcases snoc_get rfl i y hy with ⟨rfl, rfl⟩ | ⟨_, hy⟩
    · exact ((hk hs).low zb).wide z2
    · exact (hk ((h.store i y hy).on hb)).wide (by omega)
  · rcases snoc_get rfl i y hy with ⟨rfl, rfl⟩ | ⟨_, hy⟩
    · exact ((hk hw).low zb).wide z2
    · exact (hk ((h.wait i y hy).on hb)).wide (by omega)
  · rcases snoc_get rfl i y hy with ⟨rfl, rfl⟩ | ⟨_, hy⟩
    · exact h2
    · exact h.two i y hy
  · rcases snoc_get rfl i y hy with ⟨e1, e2⟩ | ⟨e, hr⟩ <;> rcases snoc_get rfl j y' hy' with ⟨e3, e4⟩ | ⟨e', hr'⟩
    · omega
    · rw [e2]; exact fun g hf hf' => by have := hnew g hf; have := h.foot hr' hf'; omega
    · rw [e4]; exact fun g hf hf' => by have := hnew g hf'; have := h.foot hr hf; omega
    · exact h.apart i j y y' hne hr hr'
  · rcases snoc_get rfl i y hy with ⟨rfl, rfl⟩ | ⟨_, hy⟩
    · exact (hq hc).down zb
    · exact hq ((h.own i y hy).on hb)
theorem GRow.res {base : Nat} {wr : World} {A : Option Addr} {n c : Nat} {us : List Nd} (h : GRow base wr (.slice A n c) us) : n = us.length ∧ ResN wr base wr.heap.size A us := by
  rcases h.row.2 with ⟨e0, e⟩ | ⟨g', cap, cr, e0, hg', hb', hn, hm, hs, ht⟩
  · injection e0 with _ e1 _
    exact ⟨by omega, .inl (List.length_eq_zero_iff.1 (by omega))⟩
  · injection e0 with e0 e1 e2
    subst e0 e1 e2
    exact ⟨rfl, .inr ⟨g', cr, rfl, hb', hg', Blk.inside hb', by omega, ndAtN_of ht, h.store, h.wait, fun i n hi g h1 h2 => h.two i n hi g h1 (.inl h2), fun i j n n' hne hi hj g h1 h2 => h.apart i j n n' hne hi hj g (footN_O h1) (footN_O h2)⟩⟩
theorem CRow.resS {base : Nat} {wr : World} {x : Value} {us : List V} (h : CRow base wr x us) : ∃ A cap, x = .slice A us.length cap ∧ ResS wr base wr.heap.size A us := by
  rcases h.res with ⟨rfl, A, cap, rfl⟩ | ⟨G, cap, cur, rfl, hO⟩
  · exact ⟨A, cap, rfl, .inl rfl⟩
  · exact ⟨_, cap, rfl, .inr ⟨G, cur, rfl, hO⟩⟩
/-- What a copy of a node is. -/
def ClonedNd (w : World) (n : Nd) (e : Ending) (w' : World) : Prop :=
  ∃ n' : Nd, e = .returned (.agg #[.slice n'.sa n'.ss.length n'.sc, .slice n'.wa n'.ws.length n'.wc]) ∧ Nd.like n' n ∧ ResS w' w.heap.size w'.heap.size n'.sa n'.ss ∧ ResS w' w.heap.size w'.heap.size n'.wa n'.ws ∧ (∀ g, FootS n'.sa n'.ss g → ¬ FootW n' g) ∧ CRow w.heap.size w' (.slice n'.wa n'.ws.length n'.wc) n'.ws ∧ Below w.heap.size w w'
set_option maxRecDepth 100000 in
set_option maxHeartbeats 2000000 in
theorem nodeClone_any (n : Nd) (w : World) (hn : n.ss.length ≤ 1048576 ∧ n.ws.length ≤ 1048576) (hm : Small n.ss) (hm' : Small n.ws) (hv : Vg w w.heap.size n.sa n.ss) (hw : Vg w w.heap.size n.wa n.ws) :
    Calls Tryz.prog 89 #[.agg #[.slice n.sa n.ss.length n.sc, .slice n.wa n.ws.length n.wc]] w (ClonedNd w n) := by
  obtain ⟨sa, sc, ss, wa, wc, ws⟩ := n
  simp only at hn hm hm' hv hw ⊢
  have S0 := (Inv.start w).box 90 #[.slice sa ss.length sc, .slice wa ws.length wc]
  have S1 := S0.alloc (.cells #[.slice none 0 0, .slice none 0 0] 90)
  have V0 := Blk.made (w.alloc (.cells #[.slice sa ss.length sc, .slice wa ws.length wc] 90)) 90 #[.slice none 0 0, .slice none 0 0]
  simp only [World.size_alloc] at S1 V0
  have zz : w.heap.size + 2 ≤ ((w.alloc (.cells #[.slice sa ss.length sc, .slice wa ws.length wc] 90)).alloc (.cells #[.slice none 0 0, .slice none 0 0] 90)).heap.size := by simp
  have CV : Hid (∀ W, Below w.heap.size w W → Calls Tryz.prog 107 #[.slice sa ss.length sc] W (CopiedR W ss)) := fun W hW => copyVers_any sa sc ss W hn.1 (fun v hv => (hm v hv).1) ((hv.on hW).up hW.size)
  have CW : Hid (∀ W, Below w.heap.size w W → Calls Tryz.prog 107 #[.slice wa ws.length wc] W (CopiedR W ws)) := fun W hW => copyVers_any wa wc ws W hn.2 (fun v hv => (hm' v hv).1) ((hw.on hW).up hW.size)
  clear hm hm' hv hw S0
  go_enter Tryz.func89, Tryz.ntmps89
  go_wp2_with fail
  generalize (w.alloc (.cells #[.slice sa ss.length sc, .slice wa ws.length wc] 90)).alloc (.cells #[.slice none 0 0, .slice none 0 0] 90) = W0 at S1 V0 zz ⊢
  refine wp_region_noPanic ?_
  refine wp_region_held_drew (S := (fun w' => (w'.cell? ⟨w.heap.size, 0, none⟩ = some (.slice sa ss.length sc) ∧ w'.cell? ⟨w.heap.size, 1, none⟩ = some (.slice wa ws.length wc)) ∧ (∃ c0 c1 : Value, Blk w' (w.heap.size + 1) 90 #[c0, c1]) ∧ Inv w (w.heap.size + 1) [(w.heap.size, 90, #[.slice sa ss.length sc, .slice wa ws.length wc])] w')) (by kernel_rfl) (by exact ⟨⟨(S1.drew.nth 0 rfl).at 0, (S1.drew.nth 0 rfl).at 1⟩, ⟨_, _, V0.drew⟩, S1.drew⟩) (fun hHeld => ?_)
  refine take_run 0 (some 3) (v := ?_) rfl rfl (by kernel_rfl) (by kernel_rfl) (by kernel_rfl) (fun _ _ _ h => h) (by rfl) ?_ hHeld ?_
  rotate_left
  · ((intro w hSw); (try dsimp only at hSw); go_simp <;> with_reducible rfl)
  simp only [Act.put, List.setIfInBounds_toArray, List.set_cons_zero, List.set_cons_succ]
  refine take_run 1 (some 4) (v := ?_) rfl rfl (by kernel_rfl) (by kernel_rfl) (by kernel_rfl) (fun _ _ _ h => h) (by rfl) ?_ hHeld ?_
  rotate_left
  · ((intro w hSw); (try dsimp only at hSw); go_simp <;> with_reducible rfl)
  simp only [Act.put, List.setIfInBounds_toArray, List.set_cons_zero, List.set_cons_succ]
  refine take_run 2 (some 5) (v := ?_) rfl rfl (by kernel_rfl) (by kernel_rfl) (by kernel_rfl) (fun _ _ _ h => h) (by rfl) ?_ hHeld ?_
  rotate_left
  · ((intro w hSw); (try dsimp only at hSw); go_simp <;> with_reducible rfl)
  simp only [Act.put, List.setIfInBounds_toArray, List.set_cons_zero, List.set_cons_succ]
  refine take_run 5 (some 8) (v := ?_) rfl rfl (by kernel_rfl) (by kernel_rfl) (by kernel_rfl) (fun _ _ _ h => h) (by rfl) ?_ hHeld ?_
  rotate_left
  · ((intro w hSw); (try dsimp only at hSw); go_simp <;> with_reducible rfl)
  simp only [Act.put, List.setIfInBounds_toArray, List.set_cons_zero, List.set_cons_succ]
  refine take_run 6 (some 9) (v := ?_) rfl rfl (by kernel_rfl) (by kernel_rfl) (by kernel_rfl) (fun _ _ _ h => h) (by rfl) ?_ hHeld ?_
  rotate_left
  · ((intro w hSw); (try dsimp only at hSw); go_simp <;> with_reducible rfl)
  simp only [Act.put, List.setIfInBounds_toArray, List.set_cons_zero, List.set_cons_succ]
  refine take_one 3 (by kernel_rfl) rfl (fun K hK => ?_)
  go_simp
  ((with_reducible refine (CV.out _ hHeld.2.2.below).mono ?_); rintro e w1 ⟨x1, us, rfl, hul, hli, hcr, hb1⟩; obtain ⟨A1, cap1, rfl, hR1⟩ := hcr.resS; have HL1 : Hid (LL us ss) := ⟨hul, hli⟩; have HR1 := hide hR1; have z1 : W0.heap.size ≤ w1.heap.size := (by have := hb1.size; simpa using this); have V1 := hHeld.2.1; have I1 := hHeld.2.2.on hb1; clear hR1 hcr hul hli)
  try go_wp2_with fail
  refine hK.out _ _ (by exact ⟨⟨(I1.nth 0 rfl).at 0, (I1.nth 0 rfl).at 1⟩, (by obtain ⟨c0, c1, h⟩ := V1; exact ⟨c0, c1, h.on hb1⟩), I1⟩) (fun hHeld => ?_)
  clear hK K
  refine take_run 4 (some 7) (v := ?_) rfl rfl (by kernel_rfl) (by kernel_rfl) (by kernel_rfl) (fun _ _ _ h => h) (by rfl) ?_ hHeld ?_
  rotate_left
  · ((intro w hSw); (try dsimp only at hSw); go_simp <;> with_reducible rfl)
  simp only [Act.put, List.setIfInBounds_toArray, List.set_cons_zero, List.set_cons_succ]
  refine take_one 7 (by kernel_rfl) rfl (fun K hK => ?_)
  go_simp
  ((with_reducible refine (CW.out _ hHeld.2.2.below).mono ?_); rintro e w2 ⟨x2, vs, rfl, hvl, hlv, hcv, hb2⟩; obtain ⟨A2, cap2, rfl, hR2⟩ := hcv.resS; have HL2 : Hid (LL vs ws) := ⟨hvl, hlv⟩; have HR2 := hide hR2; have HCV := hide hcv; have HR3 := hide (HR1.out.on hb2); have z2 : w1.heap.size ≤ w2.heap.size := hb2.size; obtain ⟨c0, c1, V2⟩ := hHeld.2.1; have V3 := V2.on hb2; have q3 := V3.two; have I2 := hHeld.2.2.on hb2; clear hR2 hcv hvl hlv V2)
  try go_wp2_with fail
  refine hK.out _ _ (by exact ⟨⟨(I2.nth 0 rfl).at 0, (I2.nth 0 rfl).at 1⟩, ⟨_, _, V3⟩, I2⟩) (fun hHeld => ?_)
  clear hK K
  refine take_run 8 (some 11) (v := ?_) rfl rfl (by kernel_rfl) (by kernel_rfl) (by kernel_rfl) (fun _ _ _ h => h) (by rfl) ?_ hHeld ?_
  rotate_left
  · ((intro w hSw); (try dsimp only at hSw); go_simp <;> with_reducible rfl)
  simp only [Act.put, List.setIfInBounds_toArray, List.set_cons_zero, List.set_cons_succ]
  refine take_one 9 (by kernel_rfl) rfl (fun K hK => ?_)
  go_simp
  refine hK.out _ _ (by exact ⟨⟨((hHeld.2.2.set (p := ⟨w.heap.size + 1, 0, none⟩) (Nat.le_refl _) (by simp) _).set (p := ⟨w.heap.size + 1, 1, none⟩) (Nat.le_refl _) (by simp) _ |>.nth 0 rfl).at 0, ((hHeld.2.2.set (p := ⟨w.heap.size + 1, 0, none⟩) (Nat.le_refl _) (by simp) _).set (p := ⟨w.heap.size + 1, 1, none⟩) (Nat.le_refl _) (by simp) _ |>.nth 0 rfl).at 1⟩, ⟨_, _, (V3.put 0 _).put 1 _⟩, (hHeld.2.2.set (p := ⟨w.heap.size + 1, 0, none⟩) (Nat.le_refl _) (by simp) _).set (p := ⟨w.heap.size + 1, 1, none⟩) (Nat.le_refl _) (by simp) _⟩) (fun hHeld => ?_)
  clear hK K
  refine wpAnyH_done (by kernel_rfl) ?_ _
  refine NoPanic.normal ?_
  have HV3 := hide V3
  have V9 := (V3.put 0 (.slice A1 us.length cap1)).put 1 (.slice A2 vs.length cap2)
  simp only [List.setIfInBounds_toArray, List.set_cons_zero, List.set_cons_succ] at V9
  have q9 := V9.two
  have I9 := hHeld.2.2
  clear hHeld q3 V3
  go_wp2
  refine bodyPost_ret (v := .agg #[.slice A1 us.length cap1, .slice A2 vs.length cap2]) (by simp [results, Tryz.results89, go_sem, q9]) rfl ?_
  have T3 : Turn (fun g => g = w.heap.size + 1) w2 ((w2.setCell ⟨w.heap.size + 1, 0, none⟩ (.slice A1 us.length cap1)).setCell ⟨w.heap.size + 1, 1, none⟩ (.slice A2 vs.length cap2)) :=
    ((Turn.refl (fun g => g = w.heap.size + 1) w2).set (p := ⟨w.heap.size + 1, 0, none⟩) rfl _).set (p := ⟨w.heap.size + 1, 1, none⟩) rfl _
  have Z3 : ((w2.setCell ⟨w.heap.size + 1, 0, none⟩ (.slice A1 us.length cap1)).setCell ⟨w.heap.size + 1, 1, none⟩ (.slice A2 vs.length cap2)).heap.size = w2.heap.size := by simp [World.setCell]
  have r1 := HR3.out
  have r2 := HR2.out
  have e1 : W0.drew.heap.size = W0.heap.size := rfl
  refine ⟨⟨A1, cap1, us, A2, cap2, vs⟩, rfl, ⟨HL1.out.1, HL1.out.2, HL2.out.1, HL2.out.2⟩, ?_, ?_, fun g h1 h2 => ?_, ?_, I9.below⟩
  · rw [Z3]
    exact ((r1.turn T3 (fun g h1 h2 e => by omega)).low (by omega)).wide z2
  · rw [Z3]
    exact (r2.turn T3 (fun g h1 h2 e => by omega)).low (by omega)
  · have := r1.foot h1
    rcases h2 with h2 | h2
    · have := r2.foot h2
      omega
    · obtain ⟨_, _, h3, _⟩ := HCV.out.typed g h2
      omega
  · exact (HCV.out.turnedT T3 (fun g e => by subst e; exact ⟨_, _, HV3.out, node_ne_ver, node_ne_tag⟩)).down (by omega)
end Go.Proofs.YtnaggcdhimcilaaGreat
/- Contract of a copy of a chain, in the program. Condition: sizes that memory holds. -/
namespace Go.Proofs.YtnaggcdhimcilaaGreat
open Go.RowKit Go.Joins
attribute [local go_sem ↓] Go.wp_at_zero Go.wp_at_succ

/-- What a copy of a chain is. -/
def ClonedC (w : World) (ns : List Nd) (e : Ending) (w' : World) : Prop :=
  ∃ (x : Value) (us : List Nd), e = .returned (.agg #[x]) ∧ NL us ns ∧ GRow w.heap.size w' x us ∧ Below w.heap.size w w'
theorem nl_snoc {us : List Nd} {ns : List Nd} {k : Nat} {v y : Nd} (h : ∀ (i : Nat) v v', us[i]? = some v → ns[i]? = some v' → Nd.like v v') (hk : us.length = k) (hy : ns[k]? = some y) (hl : Nd.like v y) : ∀ (i : Nat) x x', (us ++ [v])[i]? = some x → ns[i]? = some x' → Nd.like x x' := fun i x x' hx hx' => by
  rcases snoc_get hk i x hx with ⟨rfl, rfl⟩ | ⟨_, hq⟩
  · rw [hy] at hx'
    injection hx' with hx'
    subst hx'
    exact hl
  · exact h i x x' hq hx'
set_option maxRecDepth 100000 in
set_option maxHeartbeats 8000000 in
theorem chainClone_any (A : Option Addr) (c : Nat) (ns : List Nd) (w : World) (hn : ns.length ≤ 1048576) (hm : SmN ns) (hC : CgA w A ns) :
    Calls Tryz.prog 66 #[.agg #[.slice A ns.length c]] w (ClonedC w ns) := by
  obtain ⟨i0, hi0, hz0, hz1, hz2⟩ := info_parts node_info
  have I0 := hide hi0
  have I1 := hide hz0
  have I2 := hide hz1
  have I3 := hide hz2
  clear hi0 hz0 hz1 hz2
  have HM := hide hm
  have HC := hide hC
  clear hm hC
  generalize hnn : ns.length = n at *
  have HN := hide hnn
  clear hnn
  have S0 := ((Inv.start w).box 32 #[.slice A n c]).box 32 #[.slice none 0 0]
  have V0 := Blk.made ((w.alloc (.cells #[.slice A n c] 32)).alloc (.cells #[.slice none 0 0] 32)) 32 #[.slice none 0 0]
  have S1 := S0.alloc (.cells #[.slice none 0 0] 32)
  simp only [World.size_alloc] at S1 V0
  have HC0 := hide (GRow.start (w.heap.size + 1 + 1 + 1) (((w.alloc (.cells #[.slice A n c] 32)).alloc (.cells #[.slice none 0 0] 32)).alloc (.cells #[.slice none 0 0] 32)) (by simp))
  clear S0
  go_enter Tryz.func66, Tryz.ntmps66
  go_wp2
  go_loopw [9] (fun i wr => ∃ (k : Nat) (x : Value) (us : List Nd), k ≤ n ∧ i = .int .i64 (k : Int) ∧ Blk wr (w.heap.size + 1 + 1) 32 #[x] ∧ Hid (us.length = k) ∧ Hid (∀ (i : Nat) v v', us[i]? = some v → ns[i]? = some v' → Nd.like v v') ∧ Hid (GRow (w.heap.size + 1 + 1 + 1) wr x us) ∧ Inv w (w.heap.size + 1 + 1) [(w.heap.size + 1, 32, #[.slice none 0 0]), (w.heap.size, 32, #[.slice A n c])] wr) (fun i _ => n - (intOf i).toNat)
  case atStart => exact ⟨0, _, [], Nat.zero_le _, rfl, V0, rfl, fun i v v' hi => by simp at hi, HC0.out, S1⟩
  case round =>
    obtain ⟨k, x, us, hk, rfl, hV, HU, HL, HG, hI⟩ := hrel
    clear S1 V0 HC0
    by_cases hlt : k < n
    · rcases HC.out with h0 | ⟨G, cur, rfl, hCG⟩
      · have := HN.out; rw [h0] at this; simp at this; omega
      have hkl : k < ns.length := by have := HN.out; omega
      have HX := hide (List.getElem?_eq_getElem hkl)
      generalize ns[k] = nd at HX
      have HMM := hide (HM.out k nd HX.out)
      have HCr := hCG.on hI.below
      have n0 : wr.cell? ⟨G, k * 2, none⟩ = some (.slice nd.sa nd.ss.length nd.sc) := (HCr.blk.at _).trans (HCr.at' k nd HX.out).1
      have n1 : wr.cell? ⟨G, k * 2 + 1, none⟩ = some (.slice nd.wa nd.ws.length nd.wc) := (HCr.blk.at _).trans (HCr.at' k nd HX.out).2
      have HCL : Hid (∀ W, Below w.heap.size w W → Calls Tryz.prog 89 #[.agg #[.slice nd.sa nd.ss.length nd.sc, .slice nd.wa nd.ws.length nd.wc]] W (ClonedNd W nd)) := fun W hW => nodeClone_any nd W HMM.out.1 HMM.out.2.1 HMM.out.2.2 ((hCG.on hW).store k nd HX.out) ((hCG.on hW).wait k nd HX.out)
      have i1 : (0 : Int) ≤ (k : Int) := by omega
      have i2 : (k : Int) < (n : Int) := by omega
      obtain ⟨xa, xc, rfl⟩ := HG.out.form
      have BA := below_alloc1 wr (.cells #[.slice nd.sa nd.ss.length nd.sc, .slice nd.wa nd.ws.length nd.wc] 90)
      have HV := hide (HG.out.typed)
      have hlo := HG.out.lo
      have V1 := (hV.on BA).drew
      have q1 := V1.one.1
      have C1 := hide ((HG.out.on BA).on (Below.refl _ _).drew)
      have N1 := (Blk.made wr 90 #[.slice nd.sa nd.ss.length nd.sc, .slice nd.wa nd.ws.length nd.wc]).drew
      have m0 := N1.two.1
      have m1 := N1.two.2.1
      have J1 := (hI.alloc (.cells #[.slice nd.sa nd.ss.length nd.sc, .slice nd.wa nd.ws.length nd.wc] 90)).drew
      have zA : wr.heap.size < (wr.alloc (.cells #[.slice nd.sa nd.ss.length nd.sc, .slice nd.wa nd.ws.length nd.wc] 90)).heap.size := by simp
      have HBA := hide BA
      obtain ⟨sa, sc, ss, wa, wc, ws⟩ := nd
      simp only at n0 n1 HCL V1 q1 C1 m0 m1 J1 zA HBA HMM
      clear HCr hCG N1 BA
      go_wp2_with fail
      generalize wr.alloc (.cells #[.slice sa ss.length sc, .slice wa ws.length wc] 90) = W0 at V1 q1 C1 m0 m1 J1 zA HBA ⊢
      refine wp_region_noPanic ?_
      refine wp_region_held_drew (S := (fun w' => Inv w (w.heap.size + 1 + 1) [(w.heap.size + 1, 32, #[.slice none 0 0]), (w.heap.size, 32, #[.slice (some ⟨G, 0, none⟩) n c])] w')) (by kernel_rfl) (by exact J1) (fun hHeld => ?_)
      refine take_run 0 (some 13) (v := ?_) rfl rfl (by kernel_rfl) (by kernel_rfl) (by kernel_rfl) (fun _ _ _ h => h) (by rfl) ?_ hHeld ?_
      rotate_left
      · ((intro w hSw); (try dsimp only at hSw); go_simp <;> with_reducible rfl)
      simp only [Act.put, List.setIfInBounds_toArray, List.set_cons_zero, List.set_cons_succ]
      refine wpAnyH_ready (rs := [1, 2]) (by kernel_rfl) (by simp) ?_
      refine AllReadyH.cons rfl (fun K hK => ?_) (AllReadyH.cons rfl (fun K hK => ?_) AllReadyH.nil)
      · skip
        go_simp
        refine hK.out _ _ (by exact hHeld) (fun hHeld => ?_)
        clear hK K
        refine take_one 2 (by kernel_rfl) rfl (fun K hK => ?_)
        go_simp
        refine hK.out _ _ (by exact hHeld) (fun hHeld => ?_)
        clear hK K
        refine take_one 3 (by kernel_rfl) rfl (fun K hK => ?_)
        go_simp
        ((with_reducible refine (HCL.out _ hHeld.below).mono ?_); rintro e w1 ⟨v', rfl, hlike, hs1, hw1, h21, hc1, hb1⟩; have HC1 := hide hc1; have C2 := hide (C1.out.on hb1); have V2 := V1.on hb1; have HLI := hide hlike; have HS1 := hide hs1; have HW1 := hide hw1; have H21 := hide h21; have z1 : W0.heap.size ≤ w1.heap.size := (by have := hb1.size; simpa using this); have HR := hide (show w1.ownsRow (w.heap.size + 1 + 1 + 1) 90 2 (.slice xa us.length xc) k (flatN us) by have := C2.out.row; rw [HU.out] at this ⊢; exact this); have HB1 := hide hb1; have q2 := V2.one.1; have q4 := (V2.more (.cells #[.slice v'.sa v'.ss.length v'.sc, .slice v'.wa v'.ws.length v'.wc] 90)).one.1; clear hlike hs1 hw1 h21 hc1)
        try go_wp2_with fail
        refine hK.out _ _ (by exact hHeld.on HB1.out) (fun hHeld => ?_)
        clear hK K
        refine take_one 4 (by kernel_rfl) rfl (fun K hK => ?_)
        go_simp
        refine hK.out _ _ (by exact hHeld.alloc _) (fun hHeld => ?_)
        clear hK K
        refine take_one 5 (by kernel_rfl) rfl (fun K hK => ?_)
        (refine step_append_lies _ (by rfl) _ _ _ (by rfl) (w.heap.size + 1 + 1 + 1) 90 i0 _ 2 48 Tryz.underlying30 I0.out I1.out I2.out I3.out rfl (by omega) (.slice xa us.length xc) k (flatN us) (by rfl) (HR.out.alloc _) ⟨w1.heap.size, 0, none⟩ 1 1 (cellsN v') (by rfl) (by rfl) (World.news_of_block (cs := #[.slice v'.sa v'.ss.length v'.sc, .slice v'.wa v'.ws.length v'.wc]) (t := 90) (fr := (0, 0)) (heap_alloc_new w1 _)) (by simp [cellsN, Value.oneCell']) (by omega) (by unfold maxLen; omega) (by omega) (by simp; omega) _ rfl ?_; intro g cap w2 hown2 hgrow hat hlt2; have V3 := (V2.more (.cells #[.slice v'.sa v'.ss.length v'.sc, .slice v'.wa v'.ws.length v'.wc] 90)).kept hgrow (by intro e; have hq := HV.out _ e; obtain ⟨_, _, h1, _⟩ := hq; omega); have q3 := V3.one; have OW := hide hown2; have GW := hide hgrow; clear hown2)
        simp only [List.getElem_toArray, List.getElem_cons_zero, List.getElem_cons_succ, Act.put, List.setIfInBounds_toArray, List.set_cons_zero, List.set_cons_succ]
        refine hK.out _ _ (by exact Inv.grow hHeld hgrow (fun g' e => by have hq := HV.out _ e; obtain ⟨_, _, h1, _⟩ := hq; omega)) (fun hHeld => ?_)
        clear hK K
        refine take_run 6 (some 19) (v := ?_) rfl rfl (by kernel_rfl) (by kernel_rfl) (by kernel_rfl) (fun _ _ _ h => h) (by rfl) ?_ hHeld ?_
        rotate_left
        · ((intro w hSw); (try dsimp only at hSw); go_simp <;> with_reducible rfl)
        simp only [Act.put, List.setIfInBounds_toArray, List.set_cons_zero, List.set_cons_succ]
        refine take_one 7 (by kernel_rfl) rfl (fun K hK => ?_)
        go_simp
        refine hK.out _ _ (by exact hHeld.set (by simp) (by simp <;> omega) _) (fun hHeld => ?_)
        clear hK K
        refine wpAnyH_done (by kernel_rfl) ?_ _
        refine NoPanic.normal ?_
        have I9 := hHeld
        have C9 := C1.out.push (w1 := w1.alloc (.cells #[.slice v'.sa v'.ss.length v'.sc, .slice v'.wa v'.ws.length v'.wc] 90)) (v := v') (g := g) (cap := cap) (w2 := w2) (HB1.out.trans ((below_alloc1 w1 _).mono HB1.out.size)) ((HS1.out.on (below_alloc1 w1 _)).wide (by simp)) ((HW1.out.on (below_alloc1 w1 _)).wide (by simp)) H21.out (HC1.out.on (below_alloc1 w1 _)) (by rw [HU.out]; exact OW.out) GW.out
        rw [HU.out] at C9
        have C10 := hide (C9.aside (p := ⟨w.heap.size + 1 + 1, 0, none⟩) (by simp only; omega) (.slice (some ⟨g, 0, none⟩) (k + 1) cap))
        have V9 := V3.put 0 (.slice (some ⟨g, 0, none⟩) (k + 1) cap)
        have HL9 := hide (nl_snoc HL.out HU.out HX.out HLI.out)
        have HU9 : Hid ((us ++ [v']).length = k + 1) := (by unfold Hid; rw [List.length_append, HU.out]; rfl)
        clear hHeld V3 q3 q1 q2 q4 V1 V2 C9 C1 C2 HG m0 m1 n0 n1
        go_wp2
        exact ⟨⟨k + 1, _, _, by omega, by go_num, V9, HU9, HL9, C10, I9⟩, by simp [intOf]; omega⟩
      · skip
        go_simp
        refine hK.out _ _ (by exact hHeld) (fun hHeld => ?_)
        clear hK K
        refine wpAnyH_ready (rs := [1, 3]) (by kernel_rfl) (by simp) ?_
        refine AllReadyH.cons rfl (fun K hK => ?_) (AllReadyH.cons rfl (fun K hK => ?_) AllReadyH.nil)
        · skip
          go_simp
          refine hK.out _ _ (by exact hHeld) (fun hHeld => ?_)
          clear hK K
          refine take_one 3 (by kernel_rfl) rfl (fun K hK => ?_)
          go_simp
          ((with_reducible refine (HCL.out _ hHeld.below).mono ?_); rintro e w1 ⟨v', rfl, hlike, hs1, hw1, h21, hc1, hb1⟩; have HC1 := hide hc1; have C2 := hide (C1.out.on hb1); have V2 := V1.on hb1; have HLI := hide hlike; have HS1 := hide hs1; have HW1 := hide hw1; have H21 := hide h21; have z1 : W0.heap.size ≤ w1.heap.size := (by have := hb1.size; simpa using this); have HR := hide (show w1.ownsRow (w.heap.size + 1 + 1 + 1) 90 2 (.slice xa us.length xc) k (flatN us) by have := C2.out.row; rw [HU.out] at this ⊢; exact this); have HB1 := hide hb1; have q2 := V2.one.1; have q4 := (V2.more (.cells #[.slice v'.sa v'.ss.length v'.sc, .slice v'.wa v'.ws.length v'.wc] 90)).one.1; clear hlike hs1 hw1 h21 hc1)
          try go_wp2_with fail
          refine hK.out _ _ (by exact hHeld.on HB1.out) (fun hHeld => ?_)
          clear hK K
          refine take_one 4 (by kernel_rfl) rfl (fun K hK => ?_)
          go_simp
          refine hK.out _ _ (by exact hHeld.alloc _) (fun hHeld => ?_)
          clear hK K
          refine take_one 5 (by kernel_rfl) rfl (fun K hK => ?_)
          (refine step_append_lies _ (by rfl) _ _ _ (by rfl) (w.heap.size + 1 + 1 + 1) 90 i0 _ 2 48 Tryz.underlying30 I0.out I1.out I2.out I3.out rfl (by omega) (.slice xa us.length xc) k (flatN us) (by rfl) (HR.out.alloc _) ⟨w1.heap.size, 0, none⟩ 1 1 (cellsN v') (by rfl) (by rfl) (World.news_of_block (cs := #[.slice v'.sa v'.ss.length v'.sc, .slice v'.wa v'.ws.length v'.wc]) (t := 90) (fr := (0, 0)) (heap_alloc_new w1 _)) (by simp [cellsN, Value.oneCell']) (by omega) (by unfold maxLen; omega) (by omega) (by simp; omega) _ rfl ?_; intro g cap w2 hown2 hgrow hat hlt2; have V3 := (V2.more (.cells #[.slice v'.sa v'.ss.length v'.sc, .slice v'.wa v'.ws.length v'.wc] 90)).kept hgrow (by intro e; have hq := HV.out _ e; obtain ⟨_, _, h1, _⟩ := hq; omega); have q3 := V3.one; have OW := hide hown2; have GW := hide hgrow; clear hown2)
          simp only [List.getElem_toArray, List.getElem_cons_zero, List.getElem_cons_succ, Act.put, List.setIfInBounds_toArray, List.set_cons_zero, List.set_cons_succ]
          refine hK.out _ _ (by exact Inv.grow hHeld hgrow (fun g' e => by have hq := HV.out _ e; obtain ⟨_, _, h1, _⟩ := hq; omega)) (fun hHeld => ?_)
          clear hK K
          refine take_run 6 (some 19) (v := ?_) rfl rfl (by kernel_rfl) (by kernel_rfl) (by kernel_rfl) (fun _ _ _ h => h) (by rfl) ?_ hHeld ?_
          rotate_left
          · ((intro w hSw); (try dsimp only at hSw); go_simp <;> with_reducible rfl)
          simp only [Act.put, List.setIfInBounds_toArray, List.set_cons_zero, List.set_cons_succ]
          refine take_one 7 (by kernel_rfl) rfl (fun K hK => ?_)
          go_simp
          refine hK.out _ _ (by exact hHeld.set (by simp) (by simp <;> omega) _) (fun hHeld => ?_)
          clear hK K
          refine wpAnyH_done (by kernel_rfl) ?_ _
          refine NoPanic.normal ?_
          have I9 := hHeld
          have C9 := C1.out.push (w1 := w1.alloc (.cells #[.slice v'.sa v'.ss.length v'.sc, .slice v'.wa v'.ws.length v'.wc] 90)) (v := v') (g := g) (cap := cap) (w2 := w2) (HB1.out.trans ((below_alloc1 w1 _).mono HB1.out.size)) ((HS1.out.on (below_alloc1 w1 _)).wide (by simp)) ((HW1.out.on (below_alloc1 w1 _)).wide (by simp)) H21.out (HC1.out.on (below_alloc1 w1 _)) (by rw [HU.out]; exact OW.out) GW.out
          rw [HU.out] at C9
          have C10 := hide (C9.aside (p := ⟨w.heap.size + 1 + 1, 0, none⟩) (by simp only; omega) (.slice (some ⟨g, 0, none⟩) (k + 1) cap))
          have V9 := V3.put 0 (.slice (some ⟨g, 0, none⟩) (k + 1) cap)
          have HL9 := hide (nl_snoc HL.out HU.out HX.out HLI.out)
          have HU9 : Hid ((us ++ [v']).length = k + 1) := (by unfold Hid; rw [List.length_append, HU.out]; rfl)
          clear hHeld V3 q3 q1 q2 q4 V1 V2 C9 C1 C2 HG m0 m1 n0 n1
          go_wp2
          exact ⟨⟨k + 1, _, _, by omega, by go_num, V9, HU9, HL9, C10, I9⟩, by simp [intOf]; omega⟩
        · skip
          go_simp
          ((with_reducible refine (HCL.out _ hHeld.below).mono ?_); rintro e w1 ⟨v', rfl, hlike, hs1, hw1, h21, hc1, hb1⟩; have HC1 := hide hc1; have C2 := hide (C1.out.on hb1); have V2 := V1.on hb1; have HLI := hide hlike; have HS1 := hide hs1; have HW1 := hide hw1; have H21 := hide h21; have z1 : W0.heap.size ≤ w1.heap.size := (by have := hb1.size; simpa using this); have HR := hide (show w1.ownsRow (w.heap.size + 1 + 1 + 1) 90 2 (.slice xa us.length xc) k (flatN us) by have := C2.out.row; rw [HU.out] at this ⊢; exact this); have HB1 := hide hb1; have q2 := V2.one.1; have q4 := (V2.more (.cells #[.slice v'.sa v'.ss.length v'.sc, .slice v'.wa v'.ws.length v'.wc] 90)).one.1; clear hlike hs1 hw1 h21 hc1)
          try go_wp2_with fail
          refine hK.out _ _ (by exact hHeld.on HB1.out) (fun hHeld => ?_)
          clear hK K
          refine wpAnyH_ready (rs := [1, 4]) (by kernel_rfl) (by simp) ?_
          refine AllReadyH.cons rfl (fun K hK => ?_) (AllReadyH.cons rfl (fun K hK => ?_) AllReadyH.nil)
          · skip
            go_simp
            refine hK.out _ _ (by exact hHeld) (fun hHeld => ?_)
            clear hK K
            refine take_one 4 (by kernel_rfl) rfl (fun K hK => ?_)
            go_simp
            refine hK.out _ _ (by exact hHeld.alloc _) (fun hHeld => ?_)
            clear hK K
            refine take_one 5 (by kernel_rfl) rfl (fun K hK => ?_)
            (refine step_append_lies _ (by rfl) _ _ _ (by rfl) (w.heap.size + 1 + 1 + 1) 90 i0 _ 2 48 Tryz.underlying30 I0.out I1.out I2.out I3.out rfl (by omega) (.slice xa us.length xc) k (flatN us) (by rfl) (HR.out.alloc _) ⟨w1.heap.size, 0, none⟩ 1 1 (cellsN v') (by rfl) (by rfl) (World.news_of_block (cs := #[.slice v'.sa v'.ss.length v'.sc, .slice v'.wa v'.ws.length v'.wc]) (t := 90) (fr := (0, 0)) (heap_alloc_new w1 _)) (by simp [cellsN, Value.oneCell']) (by omega) (by unfold maxLen; omega) (by omega) (by simp; omega) _ rfl ?_; intro g cap w2 hown2 hgrow hat hlt2; have V3 := (V2.more (.cells #[.slice v'.sa v'.ss.length v'.sc, .slice v'.wa v'.ws.length v'.wc] 90)).kept hgrow (by intro e; have hq := HV.out _ e; obtain ⟨_, _, h1, _⟩ := hq; omega); have q3 := V3.one; have OW := hide hown2; have GW := hide hgrow; clear hown2)
            simp only [List.getElem_toArray, List.getElem_cons_zero, List.getElem_cons_succ, Act.put, List.setIfInBounds_toArray, List.set_cons_zero, List.set_cons_succ]
            refine hK.out _ _ (by exact Inv.grow hHeld hgrow (fun g' e => by have hq := HV.out _ e; obtain ⟨_, _, h1, _⟩ := hq; omega)) (fun hHeld => ?_)
            clear hK K
            refine take_run 6 (some 19) (v := ?_) rfl rfl (by kernel_rfl) (by kernel_rfl) (by kernel_rfl) (fun _ _ _ h => h) (by rfl) ?_ hHeld ?_
            rotate_left
            · ((intro w hSw); (try dsimp only at hSw); go_simp <;> with_reducible rfl)
            simp only [Act.put, List.setIfInBounds_toArray, List.set_cons_zero, List.set_cons_succ]
            refine take_one 7 (by kernel_rfl) rfl (fun K hK => ?_)
            go_simp
            refine hK.out _ _ (by exact hHeld.set (by simp) (by simp <;> omega) _) (fun hHeld => ?_)
            clear hK K
            refine wpAnyH_done (by kernel_rfl) ?_ _
            refine NoPanic.normal ?_
            have I9 := hHeld
            have C9 := C1.out.push (w1 := w1.alloc (.cells #[.slice v'.sa v'.ss.length v'.sc, .slice v'.wa v'.ws.length v'.wc] 90)) (v := v') (g := g) (cap := cap) (w2 := w2) (HB1.out.trans ((below_alloc1 w1 _).mono HB1.out.size)) ((HS1.out.on (below_alloc1 w1 _)).wide (by simp)) ((HW1.out.on (below_alloc1 w1 _)).wide (by simp)) H21.out (HC1.out.on (below_alloc1 w1 _)) (by rw [HU.out]; exact OW.out) GW.out
            rw [HU.out] at C9
            have C10 := hide (C9.aside (p := ⟨w.heap.size + 1 + 1, 0, none⟩) (by simp only; omega) (.slice (some ⟨g, 0, none⟩) (k + 1) cap))
            have V9 := V3.put 0 (.slice (some ⟨g, 0, none⟩) (k + 1) cap)
            have HL9 := hide (nl_snoc HL.out HU.out HX.out HLI.out)
            have HU9 : Hid ((us ++ [v']).length = k + 1) := (by unfold Hid; rw [List.length_append, HU.out]; rfl)
            clear hHeld V3 q3 q1 q2 q4 V1 V2 C9 C1 C2 HG m0 m1 n0 n1
            go_wp2
            exact ⟨⟨k + 1, _, _, by omega, by go_num, V9, HU9, HL9, C10, I9⟩, by simp [intOf]; omega⟩
          · skip
            go_simp
            refine hK.out _ _ (by exact hHeld.alloc _) (fun hHeld => ?_)
            clear hK K
            refine take_one 1 (by kernel_rfl) rfl (fun K hK => ?_)
            go_simp
            refine hK.out _ _ (by exact hHeld) (fun hHeld => ?_)
            clear hK K
            refine take_one 5 (by kernel_rfl) rfl (fun K hK => ?_)
            (refine step_append_lies _ (by rfl) _ _ _ (by rfl) (w.heap.size + 1 + 1 + 1) 90 i0 _ 2 48 Tryz.underlying30 I0.out I1.out I2.out I3.out rfl (by omega) (.slice xa us.length xc) k (flatN us) (by rfl) (HR.out.alloc _) ⟨w1.heap.size, 0, none⟩ 1 1 (cellsN v') (by rfl) (by rfl) (World.news_of_block (cs := #[.slice v'.sa v'.ss.length v'.sc, .slice v'.wa v'.ws.length v'.wc]) (t := 90) (fr := (0, 0)) (heap_alloc_new w1 _)) (by simp [cellsN, Value.oneCell']) (by omega) (by unfold maxLen; omega) (by omega) (by simp; omega) _ rfl ?_; intro g cap w2 hown2 hgrow hat hlt2; have V3 := (V2.more (.cells #[.slice v'.sa v'.ss.length v'.sc, .slice v'.wa v'.ws.length v'.wc] 90)).kept hgrow (by intro e; have hq := HV.out _ e; obtain ⟨_, _, h1, _⟩ := hq; omega); have q3 := V3.one; have OW := hide hown2; have GW := hide hgrow; clear hown2)
            simp only [List.getElem_toArray, List.getElem_cons_zero, List.getElem_cons_succ, Act.put, List.setIfInBounds_toArray, List.set_cons_zero, List.set_cons_succ]
            refine hK.out _ _ (by exact Inv.grow hHeld hgrow (fun g' e => by have hq := HV.out _ e; obtain ⟨_, _, h1, _⟩ := hq; omega)) (fun hHeld => ?_)
            clear hK K
            refine take_run 6 (some 19) (v := ?_) rfl rfl (by kernel_rfl) (by kernel_rfl) (by kernel_rfl) (fun _ _ _ h => h) (by rfl) ?_ hHeld ?_
            rotate_left
            · ((intro w hSw); (try dsimp only at hSw); go_simp <;> with_reducible rfl)
            simp only [Act.put, List.setIfInBounds_toArray, List.set_cons_zero, List.set_cons_succ]
            refine take_one 7 (by kernel_rfl) rfl (fun K hK => ?_)
            go_simp
            refine hK.out _ _ (by exact hHeld.set (by simp) (by simp <;> omega) _) (fun hHeld => ?_)
            clear hK K
            refine wpAnyH_done (by kernel_rfl) ?_ _
            refine NoPanic.normal ?_
            have I9 := hHeld
            have C9 := C1.out.push (w1 := w1.alloc (.cells #[.slice v'.sa v'.ss.length v'.sc, .slice v'.wa v'.ws.length v'.wc] 90)) (v := v') (g := g) (cap := cap) (w2 := w2) (HB1.out.trans ((below_alloc1 w1 _).mono HB1.out.size)) ((HS1.out.on (below_alloc1 w1 _)).wide (by simp)) ((HW1.out.on (below_alloc1 w1 _)).wide (by simp)) H21.out (HC1.out.on (below_alloc1 w1 _)) (by rw [HU.out]; exact OW.out) GW.out
            rw [HU.out] at C9
            have C10 := hide (C9.aside (p := ⟨w.heap.size + 1 + 1, 0, none⟩) (by simp only; omega) (.slice (some ⟨g, 0, none⟩) (k + 1) cap))
            have V9 := V3.put 0 (.slice (some ⟨g, 0, none⟩) (k + 1) cap)
            have HL9 := hide (nl_snoc HL.out HU.out HX.out HLI.out)
            have HU9 : Hid ((us ++ [v']).length = k + 1) := (by unfold Hid; rw [List.length_append, HU.out]; rfl)
            clear hHeld V3 q3 q1 q2 q4 V1 V2 C9 C1 C2 HG m0 m1 n0 n1
            go_wp2
            exact ⟨⟨k + 1, _, _, by omega, by go_num, V9, HU9, HL9, C10, I9⟩, by simp [intOf]; omega⟩
    · have hkn : k = n := by omega
      subst hkn
      clear hlt
      obtain ⟨xa, xc, rfl⟩ := HG.out.form
      have q0 := hV.one
      have q1 := (hI.nth 0 rfl).one
      have hL := hI.below
      go_wp2
      refine bodyPost_ret (v := .agg #[.slice xa us.length xc]) (by simp [results, Tryz.results66, go_sem, q1]) rfl ?_
      exact ⟨_, us, rfl, ⟨HU.out.trans HN.out.symm, HL.out⟩, (HG.out.aside (p := ⟨w.heap.size + 1, 0, none⟩) (by simp only; omega) (.slice xa us.length xc)).down (by omega), hL.setCell (by simp) _⟩
end Go.Proofs.YtnaggcdhimcilaaGreat
