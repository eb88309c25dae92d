/- Contract of the draw for the promise on what a chain shows, whatever the code. Condition: at most 1048576 bytes. -/
import Derived.Test.YtjnloillcgeodaaGreatJFnChainKit
import Derived.Test.YtjnloillcgeodaaGreatJChainJoin2
import Derived.Test.YtjnloillcgeodaaGreatJFallPure
import Derived.Test.YtjnloillcgeodaaGreatJFall
namespace Go.Proofs.YtjnloillcgeodaaGreat
open Go.RowKit Go.Joins
attribute [local go_sem ↓] Go.wp_at_zero Go.wp_at_succ

/-- What is drawn: a chain and two numbers. -/
def ChainTwo (w : World) (e : Ending) (w' : World) : Prop :=
  ∃ (A : Option Addr) (c : Nat) (ns : List Nd) (k y : Int), e = .returned (.tuple #[.agg #[.slice A ns.length c], .int .i64 k, .int .i64 y]) ∧ FewN ns ∧ CgA w' A ns ∧ Below w.heap.size w w'
/-- What holds between two draws. -/
structure DrSt (w : World) (g : Nat) (ra : Option Addr) (len cap p5 : Nat) (a1 : Option Addr) (c1 : Nat) (vs : List Nd) (w' : World) : Prop where
  inv : Inv w (p5 + 1) [(p5, 25, #[.slice a1 vs.length c1]), (w.heap.size, 25, #[.slice none 0 0])] w'
  row : CgIn w' (w.heap.size + 1) g a1 vs
  rd : ∃ m, m ≤ 900 ∧ Rd w' g ra len cap m
section
variable {w w1 w2 : World} {g len cap p5 c1 : Nat} {ra a1 : Option Addr} {vs : List Nd}
theorem DrSt.alloc (h : DrSt w g ra len cap p5 a1 c1 vs w1) (o : Obj) : DrSt w g ra len cap p5 a1 c1 vs (w1.alloc o) :=
  ⟨h.inv.on (below_alloc1 _ _), h.row.on (below_alloc1 _ _), by obtain ⟨m, h1, h2⟩ := h.rd; exact ⟨m, h1, h2.alloc o⟩⟩
theorem DrSt.drew (h : DrSt w g ra len cap p5 a1 c1 vs w1) : DrSt w g ra len cap p5 a1 c1 vs w1.drew :=
  ⟨h.inv.drew, h.row.on (Below.refl _ _).drew, by obtain ⟨m, h1, h2⟩ := h.rd; exact ⟨m, h1, h2.on (Below.refl _ _).drew⟩⟩
theorem DrSt.drawn (h : DrSt w g ra len cap p5 a1 c1 vs w1) (hg : w1.grownBy w2 (some g)) (hgw : w.heap.size ≤ g) (h5 : p5 ≠ g) (h0 : w.heap.size ≠ g) {m : Nat} (hm : m ≤ 900) (hr : Rd w2 g ra len cap m) : DrSt w g ra len cap p5 a1 c1 vs w2 :=
  ⟨h.inv.part hg (fun k e => by injection e; omega) (fun x hx k e => by
    injection e with e
    simp only [List.mem_cons, List.not_mem_nil, or_false] at hx
    rcases hx with rfl | rfl <;> simp only <;> omega), h.row.kept hg, ⟨m, hm, hr⟩⟩
end
theorem ints6_at {w : World} {g : Nat} {T : TypeId} {x0 x1 x2 x3 x4 x5 : Int} (h : Blk w g T #[.int .i64 x0, .int .i64 x1, .int .i64 x2, .int .i64 x3, .int .i64 x4, .int .i64 x5]) : ∀ i, i < 6 → ∃ x : Int, w.cell? ⟨g, i, none⟩ = some (.int .i64 x) := fun i hi => by
  rw [h.at]
  match i, hi with
  | 0, _ => exact ⟨_, rfl⟩
  | 1, _ => exact ⟨_, rfl⟩
  | 2, _ => exact ⟨_, rfl⟩
  | 3, _ => exact ⟨_, rfl⟩
  | 4, _ => exact ⟨_, rfl⟩
  | 5, _ => exact ⟨_, rfl⟩
  | n + 6, hi => omega
set_option maxRecDepth 100000 in
set_option maxHeartbeats 4000000 in
theorem drawChainShows_any (w : World) (a : Option Addr) (len cap : Nat) (hc : Code0 w a len cap) (hl : len ≤ 1048576) :
    Calls Tryz.prog 19 #[.slice a len cap] w (ChainTwo w) := by
  have S0 := (Inv.start w).box 25 #[.slice none 0 0]
  have C0 := hc.on S0.below
  go_enter Tryz.func19, Tryz.ntmps19
  go_wp2_with fail
  generalize hW : w.alloc (.cells #[.slice none 0 0] 25) = W at S0 C0 ⊢
  have zW : W.heap.size = w.heap.size + 1 := by rw [← hW]; simp
  clear hW
  refine (l20Open_any W a len cap C0 hl).mono ?_
  rintro e w1 ⟨ra, rl, rc, rfl, hb1, h1⟩
  have S1 := S0.on hb1
  have z1 := h1.inside
  obtain ⟨g, eg⟩ : ∃ g, g = W.heap.size := ⟨_, rfl⟩
  rw [← eg] at h1 z1 ⊢
  have hg2 : w.heap.size + 1 ≤ g := by omega
  clear S0 C0 hb1 hc eg zW
  go_wp2_with fail
  refine (l20AnyChain_any w1 g ra rl rc 0 h1 (by omega)).mono ?_
  rintro e w2 ⟨a1, c1, vs, rfl, hf, hv1, hg1, h2⟩
  have S2 := (S1.part hg1 (fun k e => by injection e; omega) (fun x hx k e => by
    injection e with e
    simp only [List.mem_cons, List.not_mem_nil, or_false] at hx
    subst hx
    simp only
    omega)).top.box 25 #[.slice a1 vs.length c1]
  have P1 := (hv1.low (show w.heap.size + 1 ≤ w1.heap.size by omega)).on (below_alloc1 w2 (.cells #[.slice a1 vs.length c1] 25))
  have R2 := h2.alloc (.cells #[.slice a1 vs.length c1] 25)
  have z2 := h2.inside
  have zg1 := hg1.size
  clear S1 h1 hv1 hg1 h2
  go_wp2_with fail
  generalize hW2 : w2.alloc (.cells #[.slice a1 vs.length c1] 25) = W2 at S2 P1 R2 ⊢
  have zW2 : W2.heap.size = w2.heap.size + 1 := by rw [← hW2]; simp
  clear hW2
  obtain ⟨p5, e5⟩ : ∃ p5, p5 = w2.heap.size := ⟨_, rfl⟩
  rw [← e5] at zW2
  rw [zW2, ← e5] at S2
  rw [← e5]
  have h5 : p5 ≠ g := by omega
  have lo5 : w.heap.size < p5 := by omega
  have zg5 : g < p5 := by omega
  have h0 : w.heap.size ≠ g := by omega
  have hg3 : w.heap.size ≤ g := by omega
  clear e5 hg2
  have D0w : DrSt w g ra rl rc p5 a1 c1 vs W2 := ⟨S2, P1, ⟨_, by omega, R2⟩⟩
  have D0 := D0w.drew
  have b5 := S2.drew.nth 0 rfl
  obtain ⟨m0, hm0, hR0, hRw⟩ : ∃ m, m ≤ 800 ∧ Rd W2.drew g ra rl rc m ∧ ∀ o, Rd (W2.alloc o).drew g ra rl rc m := ⟨_, by omega, R2.on (Below.refl _ _).drew, fun o => (R2.alloc o).on (Below.refl _ _).drew⟩
  have zD : W2.drew.heap.size = W2.heap.size := rfl
  clear S2 R2 P1
  have CPK : ∀ W, Rd W g ra rl rc m0 → Calls Tryz.prog 49 #[.pointer (some ⟨g, 0, none⟩), .int .i64 5] W (Drawn W g ra rl rc m0 1 (PickOk 5)) := fun W h => pick_any W g ra rl rc m0 5 h (by omega) (by omega)
  have CON : ∀ (W : World) (c : Nat), Rd W g ra rl rc (m0 + 1) → c ≠ g → c < W.heap.size → (∀ i : Nat, i < 6 → ∃ x : Int, W.cell? ⟨c, i, none⟩ = some (.int .i64 x)) → Calls Tryz.prog 31 #[.pointer (some ⟨g, 0, none⟩), .slice (some ⟨c, 0, none⟩) 6 6] W (Drawn W g ra rl rc (m0 + 1) 1 (fun _ => True)) := fun W c h h1 h2 h3 => oneN_any W g ra rl rc (m0 + 1) c 6 h (by omega) h1 h2 (by omega) (by omega) h3
  have lt_alloc : ∀ (w : World) (o : Obj), w.heap.size < (w.alloc o).heap.size := fun w o => by simp
  have hm9 : 900 ≤ 900 := Nat.le_refl _
  have hma : m0 + 1 ≤ 900 := by omega
  have hmc : m0 + 1 + 1 ≤ 900 := by omega
  have hmb : 900 ≤ 1000000 := by omega
  have zdg : p5 + 1 ≠ g := by omega
  have hkn : some g ≠ some (p5 + 1) := fun e => by injection e; omega
  have hBI : ∀ (T : TypeId) (cs : Array Value), Blk (W2.alloc (.cells cs T)).drew (p5 + 1) T cs := fun T cs => by
    have := Blk.made W2 T cs
    rw [zW2] at this
    exact this.drew
  have hlt5 : ∀ (o : Obj) (n : Nat), (W2.alloc o).drew.heap.size ≤ n → p5 + 1 < n := fun o n h => by
    have e : (W2.alloc o).drew.heap.size = W2.heap.size + 1 := by show (W2.alloc o).heap.size = _; simp
    omega
  refine wp_region_noPanic ?_
  refine wp_region_held_drew (S := (fun w' => w'.cell? ⟨p5, 0, none⟩ = some (.slice a1 vs.length c1))) (by kernel_rfl) (by exact b5.at 0) (fun hHeld => ?_)
  refine take_run 0 (some 11) (v := ?_) rfl rfl (by kernel_rfl) (by kernel_rfl) (by kernel_rfl) (fun _ _ _ h => h) (by rfl) ?_ hHeld ?_
  rotate_left
  · ((intro w hSw); (try dsimp only at hSw); go_simp <;> with_reducible rfl)
  simp only [Act.put, List.setIfInBounds_toArray, List.set_cons_zero, List.set_cons_succ]
  refine take_run 1 (some 12) (v := ?_) rfl rfl (by kernel_rfl) (by kernel_rfl) (by kernel_rfl) (fun _ _ _ h => h) (by rfl) ?_ hHeld ?_
  rotate_left
  · ((intro w hSw); (try dsimp only at hSw); go_simp <;> with_reducible rfl)
  simp only [Act.put, List.setIfInBounds_toArray, List.set_cons_zero, List.set_cons_succ]
  refine take_run 3 (some 14) (v := ?_) rfl rfl (by kernel_rfl) (by kernel_rfl) (by kernel_rfl) (fun _ _ _ h => h) (by rfl) ?_ hHeld ?_
  rotate_left
  · ((intro w hSw); (try dsimp only at hSw); go_simp <;> with_reducible rfl)
  simp only [Act.put, List.setIfInBounds_toArray, List.set_cons_zero, List.set_cons_succ]
  refine wpAnyH_ready (rs := [2, 4]) (by kernel_rfl) (by simp) ?_
  refine AllReadyH.cons rfl (fun K hK => ?_) (AllReadyH.cons rfl (fun K hK => ?_) AllReadyH.nil)
  · skip
    go_simp
    ((first | (with_reducible refine (CPK _ hR0).mono ?_) | (with_reducible refine (CPK _ (hRw _)).mono ?_)); rintro e w4 ⟨x, _, rfl, hgp, h4'⟩; have zp := hgp.size; have zi4 := h4'.inside; have zi5 : w4.heap.size ≠ g := (by omega); (first | (with_reducible have D4 := D0.drawn hgp hg3 h5 h0 hm9 (h4'.more 900 hma hmb)) | (with_reducible have D4 := (D0w.alloc _).drew.drawn hgp hg3 h5 h0 hm9 (h4'.more 900 hma hmb))))
    try go_wp2_with fail
    refine hK.out _ _ (by exact (D4.inv.nth 0 rfl).at 0) (fun hHeld => ?_)
    clear hK K
    refine take_one 4 (by kernel_rfl) rfl (fun K hK => ?_)
    go_simp
    refine hK.out _ _ (by first | exact ((D4.alloc _).inv.nth 0 rfl).at 0 | exact ((D0w.alloc _).drew.inv.nth 0 rfl).at 0) (fun hHeld => ?_)
    clear hK K
    refine take_one 5 (by kernel_rfl) rfl (fun K hK => ?_)
    go_simp
    ((first | (with_reducible refine (CON _ _ (h4'.alloc _) zi5 (lt_alloc _ _) (ints6_at (Blk.made _ _ _))).mono ?_) | (with_reducible refine (CON _ _ h4' zdg (hlt5 _ _ zp) (ints6_at ((hBI _ _).kept hgp hkn))).mono ?_)); rintro e w5 ⟨y, _, rfl, hg5', h5'⟩; (first | (with_reducible have D5 := D4.drawn hg5' hg3 h5 h0 hm9 (h5'.more 900 hmc hmb)) | (with_reducible have D5 := (D4.alloc _).drawn hg5' hg3 h5 h0 hm9 (h5'.more 900 hmc hmb))); have q2 := (D5.inv.nth 1 rfl); have k2 := q2.one)
    try go_wp2_with fail
    refine hK.out _ _ (by exact (D5.inv.nth 0 rfl).at 0) (fun hHeld => ?_)
    clear hK K
    refine take_one 6 (by kernel_rfl) rfl (fun K hK => ?_)
    go_simp
    refine hK.out _ _ (by exact ((D5.inv.nth 0 rfl).aside (p := ⟨w.heap.size, 0, none⟩) (by simp only; omega) _).at 0) (fun hHeld => ?_)
    clear hK K
    refine take_run 7 (some 3) (v := ?_) rfl rfl (by kernel_rfl) (by kernel_rfl) (by kernel_rfl) (fun _ _ _ h => h) (by rfl) ?_ hHeld ?_
    rotate_left
    · ((intro w hSw); (try dsimp only at hSw); go_simp <;> with_reducible rfl)
    simp only [Act.put, List.setIfInBounds_toArray, List.set_cons_zero, List.set_cons_succ]
    refine take_run 8 (some 4) (v := ?_) rfl rfl (by kernel_rfl) (by kernel_rfl) (by kernel_rfl) (fun _ _ _ h => h) (by rfl) ?_ hHeld ?_
    rotate_left
    · ((intro w hSw); (try dsimp only at hSw); go_simp <;> with_reducible rfl)
    simp only [Act.put, List.setIfInBounds_toArray, List.set_cons_zero, List.set_cons_succ]
    refine wpAnyH_done (by kernel_rfl) ?_ _
    refine NoPanic.normal ?_
    have r2 := (q2.put 0 (.slice a1 vs.length c1)).one
    have HB := hide (D5.inv.below.setCell (p := ⟨w.heap.size, 0, none⟩) (Nat.le_refl _) (.slice a1 vs.length c1))
    have HP := hide (D5.row.aside (p := ⟨w.heap.size, 0, none⟩) (by simp only; omega) (.slice a1 vs.length c1)).cgA
    clear hHeld D5 q2 k2 b5 D0
    go_wp2
    refine bodyPost_ret (v := .tuple #[.agg #[.slice a1 vs.length c1], .int .i64 x, .int .i64 y]) (by simp [results, Tryz.results19, go_sem, r2]) rfl ?_
    exact ⟨a1, c1, vs, x, y, rfl, hf, HP.out, HB.out⟩
  · skip
    go_simp
    refine hK.out _ _ (by first | exact ((D4.alloc _).inv.nth 0 rfl).at 0 | exact ((D0w.alloc _).drew.inv.nth 0 rfl).at 0) (fun hHeld => ?_)
    clear hK K
    refine take_one 2 (by kernel_rfl) rfl (fun K hK => ?_)
    go_simp
    ((first | (with_reducible refine (CPK _ hR0).mono ?_) | (with_reducible refine (CPK _ (hRw _)).mono ?_)); rintro e w4 ⟨x, _, rfl, hgp, h4'⟩; have zp := hgp.size; have zi4 := h4'.inside; have zi5 : w4.heap.size ≠ g := (by omega); (first | (with_reducible have D4 := D0.drawn hgp hg3 h5 h0 hm9 (h4'.more 900 hma hmb)) | (with_reducible have D4 := (D0w.alloc _).drew.drawn hgp hg3 h5 h0 hm9 (h4'.more 900 hma hmb))))
    try go_wp2_with fail
    refine hK.out _ _ (by exact (D4.inv.nth 0 rfl).at 0) (fun hHeld => ?_)
    clear hK K
    refine take_one 5 (by kernel_rfl) rfl (fun K hK => ?_)
    go_simp
    ((first | (with_reducible refine (CON _ _ (h4'.alloc _) zi5 (lt_alloc _ _) (ints6_at (Blk.made _ _ _))).mono ?_) | (with_reducible refine (CON _ _ h4' zdg (hlt5 _ _ zp) (ints6_at ((hBI _ _).kept hgp hkn))).mono ?_)); rintro e w5 ⟨y, _, rfl, hg5', h5'⟩; (first | (with_reducible have D5 := D4.drawn hg5' hg3 h5 h0 hm9 (h5'.more 900 hmc hmb)) | (with_reducible have D5 := (D4.alloc _).drawn hg5' hg3 h5 h0 hm9 (h5'.more 900 hmc hmb))); have q2 := (D5.inv.nth 1 rfl); have k2 := q2.one)
    try go_wp2_with fail
    refine hK.out _ _ (by exact (D5.inv.nth 0 rfl).at 0) (fun hHeld => ?_)
    clear hK K
    refine take_one 6 (by kernel_rfl) rfl (fun K hK => ?_)
    go_simp
    refine hK.out _ _ (by exact ((D5.inv.nth 0 rfl).aside (p := ⟨w.heap.size, 0, none⟩) (by simp only; omega) _).at 0) (fun hHeld => ?_)
    clear hK K
    refine take_run 7 (some 3) (v := ?_) rfl rfl (by kernel_rfl) (by kernel_rfl) (by kernel_rfl) (fun _ _ _ h => h) (by rfl) ?_ hHeld ?_
    rotate_left
    · ((intro w hSw); (try dsimp only at hSw); go_simp <;> with_reducible rfl)
    simp only [Act.put, List.setIfInBounds_toArray, List.set_cons_zero, List.set_cons_succ]
    refine take_run 8 (some 4) (v := ?_) rfl rfl (by kernel_rfl) (by kernel_rfl) (by kernel_rfl) (fun _ _ _ h => h) (by rfl) ?_ hHeld ?_
    rotate_left
    · ((intro w hSw); (try dsimp only at hSw); go_simp <;> with_reducible rfl)
    simp only [Act.put, List.setIfInBounds_toArray, List.set_cons_zero, List.set_cons_succ]
    refine wpAnyH_done (by kernel_rfl) ?_ _
    refine NoPanic.normal ?_
    have r2 := (q2.put 0 (.slice a1 vs.length c1)).one
    have HB := hide (D5.inv.below.setCell (p := ⟨w.heap.size, 0, none⟩) (Nat.le_refl _) (.slice a1 vs.length c1))
    have HP := hide (D5.row.aside (p := ⟨w.heap.size, 0, none⟩) (by simp only; omega) (.slice a1 vs.length c1)).cgA
    clear hHeld D5 q2 k2 b5 D0
    go_wp2
    refine bodyPost_ret (v := .tuple #[.agg #[.slice a1 vs.length c1], .int .i64 x, .int .i64 y]) (by simp [results, Tryz.results19, go_sem, r2]) rfl ?_
    exact ⟨a1, c1, vs, x, y, rfl, hf, HP.out, HB.out⟩
end Go.Proofs.YtjnloillcgeodaaGreat
/- Contracts of ChainShows, of program and model. Condition: sizes that memory holds. -/
namespace Go.Proofs.YtjnloillcgeodaaGreat
open Go.RowKit Go.Joins
attribute [local go_sem ↓] Go.wp_at_zero Go.wp_at_succ

/-- What ChainShows answers. -/
def showsR (ns : List Nd) (k y : Int) : Option V :=
  if chainB ns = true ∧ (0 ≤ k ∧ k < ns.length) ∧ 0 ≤ y ∧ y < 4 then (match ns[(if k = 0 ∧ 1 < ns.length then 1 else k.toNat)]? with | some n => n.ss[y.toNat]? | none => none) else none
theorem showsR_no {ns : List Nd} {k y : Int} (h : ¬ (chainB ns = true ∧ (0 ≤ k ∧ k < ns.length) ∧ 0 ≤ y ∧ y < 4)) : showsR ns k y = none := by unfold showsR; rw [if_neg h]
theorem showsR_yes {ns : List Nd} {k : Int} {m yn : Nat} {n : Nd} {v : V} (hc : chainB ns = true) (hk : 0 ≤ k ∧ k < ns.length) (hy : yn < 4) (hm : (if k = 0 ∧ 1 < ns.length then 1 else k.toNat) = m) (hn : ns[m]? = some n) (hv : n.ss[yn]? = some v) : showsR ns k (yn : Int) = some v := by
  unfold showsR
  rw [if_pos ⟨hc, hk, by omega, by omega⟩, hm, hn]
  simpa using hv
/-- An answer that is a version, and whether there is one. -/
def AnswerV (w : World) (o : Option V) (e : Ending) (w' : World) : Prop :=
  ∃ v' : V, e = .returned (.tuple #[.agg (verC v'.k v'.t v'.u v'.a v'.ts.length v'.c v'.s v'.g), .bool o.isSome]) ∧ V.like v' (o.getD v0) ∧ Own1 w' w.heap.size w'.heap.size v' ∧ Below w.heap.size w w'
theorem answerV_none {w w' : World} {o : Option V} (ho : o = none) (hb : Below w.heap.size w w') : AnswerV w o (.returned (.tuple #[.agg (verC 0 0 0 none 0 0 ⟨#[]⟩ false), .bool false])) w' := by
  subst ho
  exact ⟨v0, rfl, vlike_refl _, .inl rfl, hb⟩
theorem own_set6 {w : World} {B g : Nat} {v : V} {T : TypeId} {cs : Array Value} {a b c d e f : Value} (h : Own1 w B w.heap.size v) (hb : Blk w g T cs) (hT : T ≠ 49 := by decide) :
    Own1 ((((((w.setCell ⟨g, 0, none⟩ a).setCell ⟨g, 1, none⟩ b).setCell ⟨g, 2, none⟩ c).setCell ⟨g, 3, none⟩ d).setCell ⟨g, 4, none⟩ e).setCell ⟨g, 5, none⟩ f) B ((((((w.setCell ⟨g, 0, none⟩ a).setCell ⟨g, 1, none⟩ b).setCell ⟨g, 2, none⟩ c).setCell ⟨g, 3, none⟩ d).setCell ⟨g, 4, none⟩ e).setCell ⟨g, 5, none⟩ f).heap.size v := by
  have ht : Turn (fun i => i = g) w ((((((w.setCell ⟨g, 0, none⟩ a).setCell ⟨g, 1, none⟩ b).setCell ⟨g, 2, none⟩ c).setCell ⟨g, 3, none⟩ d).setCell ⟨g, 4, none⟩ e).setCell ⟨g, 5, none⟩ f) :=
    ((((((Turn.refl (fun i => i = g) w).set (p := ⟨g, 0, none⟩) rfl _).set (p := ⟨g, 1, none⟩) rfl _).set (p := ⟨g, 2, none⟩) rfl _).set (p := ⟨g, 3, none⟩) rfl _).set (p := ⟨g, 4, none⟩) rfl _).set (p := ⟨g, 5, none⟩) rfl _
  rcases h with h | ⟨g', cur, h1, h2, h3, h4, h5, h6⟩
  · exact .inl h
  · exact .inr ⟨g', cur, h1, h2, Nat.lt_of_lt_of_le h3 ht.size, h4.turned ht (fun e => by subst e; exact hT (blk_one hb h4)), h5, h6⟩
set_option maxRecDepth 100000 in
set_option maxHeartbeats 400000 in
theorem implChainShows_any (A : Option Addr) (c : Nat) (ns : List Nd) (k y : Int) (w : World) (hn : ns.length ≤ 1048576) (hm : SmN ns) (hC : CgA w A ns) :
    Calls Tryz.prog 20 #[.agg #[.slice A ns.length c], .int .i64 k, .int .i64 y] w (AnswerV w (showsR ns k y)) := by
  have S0 := ((Inv.start w).box 25 #[.slice A ns.length c]).box 51 (verC 0 0 0 none 0 0 ⟨#[]⟩ false)
  simp only [World.size_alloc] at S0
  have C0 := hide (implChainOk_any A c ns ((w.alloc (.cells #[.slice A ns.length c] 25)).alloc (.cells (verC 0 0 0 none 0 0 ⟨#[]⟩ false) 51)) hn hm (hC.on S0.below))
  have k0 := (S0.nth 1 rfl).one.1
  have HM := hide hm
  have HC := hide hC
  clear hm hC
  cases ho : chainB ns
  · have HE := hide (showsR_no (ns := ns) (k := k) (y := y) (fun h => by rw [ho] at h; exact absurd h.1 (by decide)))
    rw [ho] at C0
    clear ho
    go_enter Tryz.func20, Tryz.ntmps20
    go_wp2_with fail
    with_reducible refine C0.out.mono ?_
    rintro e w1 ⟨rfl, hb1⟩
    have S1 := S0.on hb1
    have q1 := (S1.nth 0 rfl).six
    clear S0 C0 k0
    go_wp2
    refine bodyPost_ret (v := .tuple #[.agg (verC 0 0 0 none 0 0 ⟨#[]⟩ false), .bool false]) (by simp [results, Tryz.results20, go_sem, q1]) rfl ?_
    exact answerV_none HE.out (below_set6 S1.below (by omega) _ _ _ _ _ _)
  · have HOK := hide ho
    rw [ho] at C0
    obtain ⟨⟨h1, h4⟩, hB, _⟩ := chainB_parts ho
    have HB := hide hB
    clear ho hB
    by_cases hr : (0 ≤ k ∧ k < (ns.length : Int)) ∧ 0 ≤ y ∧ y < 4
    · obtain ⟨⟨r1, r2⟩, r3, r4⟩ := hr
      rcases HC.out with h0 | ⟨G, cur, rfl, hG⟩
      · rw [h0] at h1; simp at h1
      have HG := hide hG
      obtain ⟨m, hm⟩ : ∃ m : Nat, (if k = 0 ∧ 1 < ns.length then 1 else k.toNat) = m := ⟨_, rfl⟩
      have hml : m < ns.length := by
        rw [← hm]
        split <;> omega
      obtain ⟨nd, hnd⟩ : ∃ nd, ns[m]? = some nd := ⟨_, List.getElem?_eq_getElem hml⟩
      obtain ⟨yn, rfl⟩ := Int.eq_ofNat_of_zero_le r3
      have hs4 := storeB_four (nodeB_parts (HB.out m nd hnd)).1
      obtain ⟨v, hv⟩ : ∃ v, nd.ss[yn]? = some v := ⟨_, List.getElem?_eq_getElem (by omega)⟩
      have HE := hide (showsR_yes HOK.out ⟨r1, r2⟩ (by omega) hm hnd hv)
      have HN : Hid (∀ W, Below w.heap.size w W → W.cell? ⟨G, m * 2, none⟩ = some (.slice nd.sa 4 nd.sc)) := fun W hW => by
        have := ((HG.out.on hW).blk.at (m * 2)).trans (HG.out.at' m nd hnd).1
        rw [hs4] at this
        exact this
      have HVG := hide (HG.out.store m nd hnd)
      have HVL := hide ((HM.out m nd hnd).2.1 v (List.mem_of_getElem? hv)).1
      have HV := hide hv
      have S4 := hide hs4
      obtain ⟨sa, sc, ss, wa, wc, ws⟩ := nd
      simp only at HV S4 HN HVG
      rcases HVG.out with h0 | ⟨b, off, rfl, hb, hx⟩
      · have := S4.out; rw [h0] at this; simp at this
      obtain ⟨hS, hT⟩ := hx yn v HV.out
      have HS := hide hS
      have HT := hide hT
      clear hS hT hx hv hs4 hnd hG HVG HC HM HB
      obtain ⟨kn, rfl⟩ := Int.eq_ofNat_of_zero_le r1
      have hkl : kn < ns.length := by omega
      have j1 : ¬ ((kn : Int) < 0) := by omega
      have j2 : ¬ ((kn : Int) ≥ (ns.length : Int)) := by omega
      have j3 : ¬ ((yn : Int) < 0) := by omega
      have j4 : ¬ ((yn : Int) ≥ 4) := by omega
      have j5 : (yn : Int) < 4 := by omega
      have j6 : (0 : Int) ≤ (yn : Int) := by omega
      go_enter Tryz.func20, Tryz.ntmps20
      go_wp2_with fail
      with_reducible refine C0.out.mono ?_
      rintro e w1 ⟨rfl, hb1⟩
      have S1 := S0.on hb1
      have k1 := (S1.nth 1 rfl).one.1
      have n1 := HN.out _ S1.below
      have s1 := HS.out.keep hb fun _ hp => S1.below.cell hp
      have zr := S1.room
      clear S0 C0 k0
      by_cases hz : kn = 0
      · have l0 : ((kn : Int) == 0) = true := by rw [hz]; rfl
        by_cases hl : 1 < ns.length
        · obtain rfl : m = 1 := by rw [if_pos ⟨by omega, hl⟩] at hm; exact hm.symm
          have l1 : (ns.length : Int) > 1 := by omega
          have l2 : (1 : Int) < (ns.length : Int) := by omega
          clear hm hl hz
          go_wp2_with fail
          refine (clone_any v w1 HVL.out ((HT.out.on S1.below).up S1.base)).mono ?_
          rintro e w2 ⟨v', rfl, hlike, hown, hb2⟩
          have S2 := S1.on hb2
          have q2 := (S2.nth 0 rfl).six
          have HLI := hide hlike
          have HOW := hide hown
          clear S1 k1 n1 s1 hlike hown
          go_wp2
          refine bodyPost_ret (v := .tuple #[.agg (verC v'.k v'.t v'.u v'.a v'.ts.length v'.c v'.s v'.g), .bool true]) (by simp [results, Tryz.results20, go_sem, q2]) rfl ?_
          rw [HE.out]
          exact ⟨v', rfl, HLI.out, own_set6 (HOW.out.low (by omega)) (S2.nth 0 rfl), below_set6 S2.below (by omega) _ _ _ _ _ _⟩
        · obtain rfl : m = kn := by rw [if_neg (fun h => hl h.2)] at hm; omega
          have l1 : ¬ ((ns.length : Int) > 1) := by omega
          have l2 : (m : Int) < (ns.length : Int) := by omega
          have l3 : (0 : Int) ≤ (m : Int) := by omega
          clear hm hl hz
          go_wp2_with fail
          refine (clone_any v w1 HVL.out ((HT.out.on S1.below).up S1.base)).mono ?_
          rintro e w2 ⟨v', rfl, hlike, hown, hb2⟩
          have S2 := S1.on hb2
          have q2 := (S2.nth 0 rfl).six
          have HLI := hide hlike
          have HOW := hide hown
          clear S1 k1 n1 s1 hlike hown
          go_wp2
          refine bodyPost_ret (v := .tuple #[.agg (verC v'.k v'.t v'.u v'.a v'.ts.length v'.c v'.s v'.g), .bool true]) (by simp [results, Tryz.results20, go_sem, q2]) rfl ?_
          rw [HE.out]
          exact ⟨v', rfl, HLI.out, own_set6 (HOW.out.low (by omega)) (S2.nth 0 rfl), below_set6 S2.below (by omega) _ _ _ _ _ _⟩
      · obtain rfl : m = kn := by rw [if_neg (fun h => hz (by omega))] at hm; omega
        have l1 : ((m : Int) == 0) = false := by rw [beq_eq_false_iff_ne]; omega
        have l2 : (m : Int) < (ns.length : Int) := by omega
        have l3 : (0 : Int) ≤ (m : Int) := by omega
        clear hm hz
        go_wp2_with fail
        refine (clone_any v w1 HVL.out ((HT.out.on S1.below).up S1.base)).mono ?_
        rintro e w2 ⟨v', rfl, hlike, hown, hb2⟩
        have S2 := S1.on hb2
        have q2 := (S2.nth 0 rfl).six
        have HLI := hide hlike
        have HOW := hide hown
        clear S1 k1 n1 s1 hlike hown
        go_wp2
        refine bodyPost_ret (v := .tuple #[.agg (verC v'.k v'.t v'.u v'.a v'.ts.length v'.c v'.s v'.g), .bool true]) (by simp [results, Tryz.results20, go_sem, q2]) rfl ?_
        rw [HE.out]
        exact ⟨v', rfl, HLI.out, own_set6 (HOW.out.low (by omega)) (S2.nth 0 rfl), below_set6 S2.below (by omega) _ _ _ _ _ _⟩
    · have HE := hide (showsR_no (ns := ns) (k := k) (y := y) (fun h => hr h.2))
      have BADK : Hid (k < 0 ∨ k ≥ (ns.length : Int) ∨ y < 0 ∨ y ≥ 4) := by unfold Hid; omega
      go_enter Tryz.func20, Tryz.ntmps20
      go_wp2_with fail
      with_reducible refine C0.out.mono ?_
      rintro e w1 ⟨rfl, hb1⟩
      have S1 := S0.on hb1
      have q1 := (S1.nth 0 rfl).six
      have k1 := (S1.nth 1 rfl).one.1
      clear S0 C0 k0 hr
      by_cases c1 : k < 0
      · go_wp2
        refine bodyPost_ret (v := .tuple #[.agg (verC 0 0 0 none 0 0 ⟨#[]⟩ false), .bool false]) (by simp [results, Tryz.results20, go_sem, q1]) rfl ?_
        exact answerV_none HE.out (below_set6 S1.below (by omega) _ _ _ _ _ _)
      by_cases c2 : k ≥ (ns.length : Int)
      · go_wp2
        refine bodyPost_ret (v := .tuple #[.agg (verC 0 0 0 none 0 0 ⟨#[]⟩ false), .bool false]) (by simp [results, Tryz.results20, go_sem, q1]) rfl ?_
        exact answerV_none HE.out (below_set6 S1.below (by omega) _ _ _ _ _ _)
      by_cases c3 : y < 0
      · go_wp2
        refine bodyPost_ret (v := .tuple #[.agg (verC 0 0 0 none 0 0 ⟨#[]⟩ false), .bool false]) (by simp [results, Tryz.results20, go_sem, q1]) rfl ?_
        exact answerV_none HE.out (below_set6 S1.below (by omega) _ _ _ _ _ _)
      have c4 : y ≥ 4 := by have := BADK.out; omega
      · go_wp2
        refine bodyPost_ret (v := .tuple #[.agg (verC 0 0 0 none 0 0 ⟨#[]⟩ false), .bool false]) (by simp [results, Tryz.results20, go_sem, q1]) rfl ?_
        exact answerV_none HE.out (below_set6 S1.below (by omega) _ _ _ _ _ _)
set_option maxRecDepth 100000 in
set_option maxHeartbeats 400000 in
theorem l3Shows_any (G c m yn b off sc : Nat) (k : Int) (nl : Nat) (v : V) (w : World) (hnl : nl ≤ 4) (hk : 0 ≤ k ∧ k < (nl : Int)) (hm : (if k = 0 ∧ 1 < nl then 1 else k.toNat) = m) (hy : yn < 4) (hN : Hid (∀ W, Below w.heap.size w W → W.cell? ⟨G, m * 2, none⟩ = some (.slice (some ⟨b, off, none⟩) 4 sc))) (hb : b < w.heap.size) (HS : Hid (Six w b (off + yn * 6) v)) (hv : v.ts.length ≤ 1048576) (hT : Tg w w.heap.size v.a v.ts) :
    Calls Tryz.prog 51 #[.agg #[.slice (some ⟨G, 0, none⟩) nl c], .int .i64 k, .int .i64 (yn : Int)] w (Cloned w v) := by
  have S1 := ((Inv.start w).box 25 #[.slice (some ⟨G, 0, none⟩) nl c]).box 51 (verC 0 0 0 none 0 0 ⟨#[]⟩ false)
  simp only [World.size_alloc] at S1
  have HT := hide hT
  clear hT
  have j5 : (yn : Int) < 4 := by omega
  have j6 : (0 : Int) ≤ (yn : Int) := by omega
  obtain ⟨r1, r2⟩ := hk
  obtain ⟨kn, rfl⟩ := Int.eq_ofNat_of_zero_le r1
  have k1 := (S1.nth 1 rfl).one.1
  have n1 := hN.out _ S1.below
  have s1 := HS.out.keep hb fun _ hp => S1.below.cell hp
  have zr := S1.room
  have CL := hide (l2Copy_any v _ hv ((HT.out.on S1.below).up S1.base))
  by_cases hz : kn = 0
  · have l0 : ((kn : Int) == 0) = true := by rw [hz]; rfl
    by_cases hl : 1 < nl
    · obtain rfl : m = 1 := by rw [if_pos ⟨by omega, hl⟩] at hm; exact hm.symm
      have l1 : (nl : Int) > 1 := by omega
      have l2 : (1 : Int) < (nl : Int) := by omega
      clear hm hl hz
      go_enter Tryz.func51, Tryz.ntmps51
      go_wp2_with fail
      with_reducible refine CL.out.mono ?_
      rintro e w2 ⟨v', rfl, hlike, hown, hb2⟩
      have S2 := S1.on hb2
      have q2 := (S2.nth 0 rfl).six
      have HLI := hide hlike
      have HOW := hide hown
      clear S1 k1 n1 s1 hlike hown CL
      go_wp2
      refine bodyPost_ret (v := .agg (verC v'.k v'.t v'.u v'.a v'.ts.length v'.c v'.s v'.g)) (by simp [results, Tryz.results51, go_sem, q2]) rfl ?_
      exact ⟨v', rfl, HLI.out, own_set6 (HOW.out.low (by simp; omega)) (S2.nth 0 rfl), below_set6 S2.below (by omega) _ _ _ _ _ _⟩
    · obtain rfl : m = kn := by rw [if_neg (fun h => hl h.2)] at hm; omega
      have l1 : ¬ ((nl : Int) > 1) := by omega
      have l2 : (m : Int) < (nl : Int) := by omega
      have l3 : (0 : Int) ≤ (m : Int) := by omega
      clear hm hl hz
      go_enter Tryz.func51, Tryz.ntmps51
      go_wp2_with fail
      with_reducible refine CL.out.mono ?_
      rintro e w2 ⟨v', rfl, hlike, hown, hb2⟩
      have S2 := S1.on hb2
      have q2 := (S2.nth 0 rfl).six
      have HLI := hide hlike
      have HOW := hide hown
      clear S1 k1 n1 s1 hlike hown CL
      go_wp2
      refine bodyPost_ret (v := .agg (verC v'.k v'.t v'.u v'.a v'.ts.length v'.c v'.s v'.g)) (by simp [results, Tryz.results51, go_sem, q2]) rfl ?_
      exact ⟨v', rfl, HLI.out, own_set6 (HOW.out.low (by simp; omega)) (S2.nth 0 rfl), below_set6 S2.below (by omega) _ _ _ _ _ _⟩
  · obtain rfl : m = kn := by rw [if_neg (fun h => hz (by omega))] at hm; omega
    have l1 : ((m : Int) == 0) = false := by rw [beq_eq_false_iff_ne]; omega
    have l2 : (m : Int) < (nl : Int) := by omega
    have l3 : (0 : Int) ≤ (m : Int) := by omega
    clear hm hz
    go_enter Tryz.func51, Tryz.ntmps51
    go_wp2_with fail
    with_reducible refine CL.out.mono ?_
    rintro e w2 ⟨v', rfl, hlike, hown, hb2⟩
    have S2 := S1.on hb2
    have q2 := (S2.nth 0 rfl).six
    have HLI := hide hlike
    have HOW := hide hown
    clear S1 k1 n1 s1 hlike hown CL
    go_wp2
    refine bodyPost_ret (v := .agg (verC v'.k v'.t v'.u v'.a v'.ts.length v'.c v'.s v'.g)) (by simp [results, Tryz.results51, go_sem, q2]) rfl ?_
    exact ⟨v', rfl, HLI.out, own_set6 (HOW.out.low (by simp; omega)) (S2.nth 0 rfl), below_set6 S2.below (by omega) _ _ _ _ _ _⟩
set_option maxRecDepth 100000 in
set_option maxHeartbeats 400000 in
theorem specChainShows_any (A : Option Addr) (c : Nat) (ns : List Nd) (k y : Int) (w : World) (hn : ns.length ≤ 1048576) (hm : SmN ns) (hC : CgA w A ns) :
    Calls Tryz.prog 21 #[.agg #[.slice A ns.length c], .int .i64 k, .int .i64 y] w (AnswerV w (showsR ns k y)) := by
  have S0 := ((Inv.start w).box 25 #[.slice A ns.length c]).box 51 (verC 0 0 0 none 0 0 ⟨#[]⟩ false)
  simp only [World.size_alloc] at S0
  have C0 := hide (l3Ok_any A c ns ((w.alloc (.cells #[.slice A ns.length c] 25)).alloc (.cells (verC 0 0 0 none 0 0 ⟨#[]⟩ false) 51)) hn hm (hC.on S0.below))
  have k0 := (S0.nth 1 rfl).one.1
  have HM := hide hm
  have HC := hide hC
  clear hm hC
  cases ho : chainB ns
  · have HE := hide (showsR_no (ns := ns) (k := k) (y := y) (fun h => by rw [ho] at h; exact absurd h.1 (by decide)))
    rw [ho] at C0
    clear ho
    go_enter Tryz.func21, Tryz.ntmps21
    go_wp2_with fail
    with_reducible refine C0.out.mono ?_
    rintro e w1 ⟨rfl, hb1⟩
    have S1 := S0.on hb1
    have q1 := (S1.nth 0 rfl).six
    clear S0 C0 k0
    go_wp2
    refine bodyPost_ret (v := .tuple #[.agg (verC 0 0 0 none 0 0 ⟨#[]⟩ false), .bool false]) (by simp [results, Tryz.results21, go_sem, q1]) rfl ?_
    exact answerV_none HE.out (below_set6 S1.below (by omega) _ _ _ _ _ _)
  · have HOK := hide ho
    rw [ho] at C0
    obtain ⟨⟨h1, h4⟩, hB, _⟩ := chainB_parts ho
    have HB := hide hB
    clear ho hB
    by_cases hr : (0 ≤ k ∧ k < (ns.length : Int)) ∧ 0 ≤ y ∧ y < 4
    · obtain ⟨⟨r1, r2⟩, r3, r4⟩ := hr
      rcases HC.out with h0 | ⟨G, cur, rfl, hG⟩
      · rw [h0] at h1; simp at h1
      have HG := hide hG
      obtain ⟨m, hm⟩ : ∃ m : Nat, (if k = 0 ∧ 1 < ns.length then 1 else k.toNat) = m := ⟨_, rfl⟩
      have hml : m < ns.length := by
        rw [← hm]
        split <;> omega
      obtain ⟨nd, hnd⟩ : ∃ nd, ns[m]? = some nd := ⟨_, List.getElem?_eq_getElem hml⟩
      obtain ⟨yn, rfl⟩ := Int.eq_ofNat_of_zero_le r3
      have hs4 := storeB_four (nodeB_parts (HB.out m nd hnd)).1
      obtain ⟨v, hv⟩ : ∃ v, nd.ss[yn]? = some v := ⟨_, List.getElem?_eq_getElem (by omega)⟩
      have HE := hide (showsR_yes HOK.out ⟨r1, r2⟩ (by omega) hm hnd hv)
      have HN : Hid (∀ W, Below w.heap.size w W → W.cell? ⟨G, m * 2, none⟩ = some (.slice nd.sa 4 nd.sc)) := fun W hW => by
        have := ((HG.out.on hW).blk.at (m * 2)).trans (HG.out.at' m nd hnd).1
        rw [hs4] at this
        exact this
      have HVG := hide (HG.out.store m nd hnd)
      have HVL := hide ((HM.out m nd hnd).2.1 v (List.mem_of_getElem? hv)).1
      have HV := hide hv
      have S4 := hide hs4
      obtain ⟨sa, sc, ss, wa, wc, ws⟩ := nd
      simp only at HV S4 HN HVG
      rcases HVG.out with h0 | ⟨b, off, rfl, hb, hx⟩
      · have := S4.out; rw [h0] at this; simp at this
      obtain ⟨hS, hT⟩ := hx yn v HV.out
      have HS := hide hS
      have HT := hide hT
      clear hS hT hx hv hs4 hnd hG HVG HC HM HB
      obtain ⟨kn, rfl⟩ := Int.eq_ofNat_of_zero_le r1
      have hkl : kn < ns.length := by omega
      have j1 : ¬ ((kn : Int) < 0) := by omega
      have j2 : ¬ ((kn : Int) ≥ (ns.length : Int)) := by omega
      have j3 : ¬ ((yn : Int) < 0) := by omega
      have j4 : ¬ ((yn : Int) ≥ 4) := by omega
      have j5 : (yn : Int) < 4 := by omega
      have j6 : (0 : Int) ≤ (yn : Int) := by omega
      have d1 : decide ((0 : Int) ≤ (kn : Int) ∧ (kn : Int) ≤ (ns.length : Int) - 1) = true := decide_eq_true (by omega)
      have d2 : decide ((0 : Int) ≤ (yn : Int) ∧ (yn : Int) ≤ 3) = true := decide_eq_true (by omega)
      go_enter Tryz.func21, Tryz.ntmps21
      go_wp2_with fail
      with_reducible refine C0.out.mono ?_
      rintro e w1 ⟨rfl, hb1⟩
      have S1 := S0.on hb1
      have k1 := (S1.nth 1 rfl).one.1
      have zr := S1.room
      clear S0 C0 k0
      go_wp2_with fail
      refine (l1In_any (kn : Int) 0 ((ns.length : Int) - 1) w1).mono ?_
      rintro e w1' ⟨rfl, rfl⟩
      rw [d1]
      go_wp2_with fail
      refine (l1In_any (yn : Int) 0 3 w1).mono ?_
      rintro e w1' ⟨rfl, rfl⟩
      rw [d2]
      have CS := hide (l3Shows_any G c m yn b off sc (kn : Int) ns.length v w1 h4 ⟨r1, r2⟩ hm (by omega) (fun W hW => HN.out W (S1.below.trans (hW.mono S1.base))) (by have := S1.base; omega) (HS.out.keep hb fun _ hp => S1.below.cell hp) HVL.out ((HT.out.on S1.below).up S1.base))
      go_wp2_with fail
      with_reducible refine CS.out.mono ?_
      rintro e w2 ⟨v', rfl, hlike, hown, hb2⟩
      have S2 := S1.on hb2
      have q2 := (S2.nth 0 rfl).six
      have HLI := hide hlike
      have HOW := hide hown
      clear S1 k1 hlike hown CS
      go_wp2
      refine bodyPost_ret (v := .tuple #[.agg (verC v'.k v'.t v'.u v'.a v'.ts.length v'.c v'.s v'.g), .bool true]) (by simp [results, Tryz.results21, go_sem, q2]) rfl ?_
      rw [HE.out]
      exact ⟨v', rfl, HLI.out, own_set6 (HOW.out.low (by omega)) (S2.nth 0 rfl), below_set6 S2.below (by omega) _ _ _ _ _ _⟩
    · have HE := hide (showsR_no (ns := ns) (k := k) (y := y) (fun h => hr h.2))
      go_enter Tryz.func21, Tryz.ntmps21
      go_wp2_with fail
      with_reducible refine C0.out.mono ?_
      rintro e w1 ⟨rfl, hb1⟩
      have S1 := S0.on hb1
      have q1 := (S1.nth 0 rfl).six
      have k1 := (S1.nth 1 rfl).one.1
      clear S0 C0 k0
      go_wp2_with fail
      refine (l1In_any k 0 ((ns.length : Int) - 1) w1).mono ?_
      rintro e w1' ⟨rfl, rfl⟩
      by_cases c1 : (0 : Int) ≤ k ∧ k ≤ (ns.length : Int) - 1
      · rw [decide_eq_true c1]
        have d2 : decide ((0 : Int) ≤ y ∧ y ≤ 3) = false := decide_eq_false (by omega)
        clear hr c1
        go_wp2_with fail
        refine (l1In_any y 0 3 w1).mono ?_
        rintro e w1' ⟨rfl, rfl⟩
        rw [d2]
        go_wp2
        refine bodyPost_ret (v := .tuple #[.agg (verC 0 0 0 none 0 0 ⟨#[]⟩ false), .bool false]) (by simp [results, Tryz.results21, go_sem, q1]) rfl ?_
        exact answerV_none HE.out (below_set6 S1.below (by omega) _ _ _ _ _ _)
      · rw [decide_eq_false c1]
        clear hr c1
        go_wp2
        refine bodyPost_ret (v := .tuple #[.agg (verC 0 0 0 none 0 0 ⟨#[]⟩ false), .bool false]) (by simp [results, Tryz.results21, go_sem, q1]) rfl ?_
        exact answerV_none HE.out (below_set6 S1.below (by omega) _ _ _ _ _ _)
end Go.Proofs.YtjnloillcgeodaaGreat
/- A valid chain without a node is valid; what its nodes had they have; what all nodes have is no less. No condition. -/
namespace Go.Proofs.YtjnloillcgeodaaGreat
open Go.RowKit Go.Joins

/-- Slots that are nowhere earlier than others. -/
def Above (xs ys : List V) : Prop := xs.length = ys.length ∧ ∀ (i : Nat) x y, xs[i]? = some x → ys[i]? = some y → V.like x y ∨ lessB y.t y.u x.t x.u = true
theorem lessB_chain {a b c d e f : Int} (h : lessB a b c d = true) (k : lessB c d e f = true) : lessB a b e f = true := by
  unfold lessB at *
  simp only [decide_eq_true_eq] at *
  omega
theorem above_refl (xs : List V) : Above xs xs := ⟨rfl, fun i x y hx hy => by
  rw [hx] at hy
  injection hy with hy
  exact .inl (hy ▸ vlike_refl _)⟩
theorem above_trans {xs ys zs : List V} (h : Above xs ys) (k : Above ys zs) : Above xs zs := ⟨h.1.trans k.1, fun i x z hx hz => by
  obtain ⟨y, hy⟩ : ∃ y, ys[i]? = some y := ⟨_, List.getElem?_eq_getElem (by rw [k.1]; exact (List.getElem?_eq_some_iff.1 hz).1)⟩
  rcases h.2 i x y hx hy with q | q <;> rcases k.2 i y z hy hz with r | r
  · exact .inl (vlike_trans q r)
  · exact .inr (by rw [q.2.1, q.2.2.1]; exact r)
  · exact .inr (by rw [← r.2.1, ← r.2.2.1]; exact q)
  · exact .inr (lessB_chain r q)⟩
theorem above_like {xs xs' ys : List V} (h : Above xs ys) (hl : LL xs xs') : Above xs' ys := ⟨hl.1.symm.trans h.1, fun i x y hx hy => by
  obtain ⟨x0, hx0, q⟩ := ll_at (ll_symm hl) hx
  rcases h.2 i x0 y hx0 hy with r | r
  · exact .inl (vlike_trans q r)
  · exact .inr (by rw [q.2.1, q.2.2.1]; exact r)⟩
theorem step_above {ms us : List V} {v : V} (h : stepL ms v = some us) : Above us ms := by
  unfold stepL at h
  split at h
  · rename_i x hx
    split at h
    · rename_i hb
      injection h with h
      subst h
      refine ⟨by rw [List.length_set], fun i a b ha hb' => ?_⟩
      rcases set_at ha with ⟨rfl, rfl, _⟩ | ⟨_, q⟩
      · rw [hx] at hb'
        injection hb' with hb'
        subst hb'
        exact .inr hb
      · rw [q] at hb'
        injection hb' with hb'
        exact .inl (hb' ▸ vlike_refl _)
    · cases h
  · cases h
theorem walk_above : ∀ {ws ms us : List V}, walkL ms ws = some us → Above us ms
  | [], ms, us, h => by
    have e : ms = us := by unfold walkL at h; simpa using h
    rw [e]
    exact above_refl _
  | v :: r, ms, us, h => by
    rw [walkL_cons] at h
    cases hs : stepL ms v with
    | none => rw [hs] at h; cases h
    | some ss =>
      rw [hs] at h
      exact above_trans (walk_above (ws := r) h) (step_above hs)
theorem link_above {n m : Nd} (h : linkB n m = true) : Above n.ss m.ss := by
  obtain ⟨us, hu, hl⟩ := linkB_parts h
  exact above_like (walk_above hu) hl
/-- Along a chain. -/
theorem chain_above {ns : List Nd} (h : chainB ns = true) : ∀ (d i : Nat) (n m : Nd), ns[i]? = some n → ns[i + d]? = some m → Above n.ss m.ss
  | 0, i, n, m, hn, hm => by
    rw [Nat.add_zero, hn] at hm
    injection hm with hm
    rw [hm]
    exact above_refl _
  | d + 1, i, n, m, hn, hm => by
    obtain ⟨x, hx⟩ : ∃ x, ns[i + d]? = some x := ⟨_, List.getElem?_eq_getElem (by have := (List.getElem?_eq_some_iff.1 hm).1; omega)⟩
    exact above_trans (chain_above h d i n x hn hx) (link_above (chain_link h hx hm))
theorem above_not {xs ys : List V} (h : Above xs ys) {i : Nat} {x y : V} (hx : xs[i]? = some x) (hy : ys[i]? = some y) : lessB x.t x.u y.t y.u = false := by
  rcases h.2 i x y hx hy with q | q
  · rw [q.2.1, q.2.2.1]
    unfold lessB
    simp only [decide_eq_false_iff_not]
    omega
  · unfold lessB at q ⊢
    simp only [decide_eq_true_eq, decide_eq_false_iff_not] at q ⊢
    omega
/-- Versions of different keys, each later than what is there, all come in. -/
theorem walk_keys : ∀ (ws ys : List V), (∀ v ∈ ws, ∃ y, ys[v.k.toNat]? = some y ∧ lessB y.t y.u v.t v.u = true) → ws.Pairwise (fun a b => a.k.toNat ≠ b.k.toNat) →
    ∃ us, walkL ys ws = some us ∧ us.length = ys.length ∧ ∀ (i : Nat) u, us[i]? = some u → (∃ v ∈ ws, v.k.toNat = i ∧ u = v) ∨ ((∀ v ∈ ws, v.k.toNat ≠ i) ∧ ys[i]? = some u)
  | [], ys, _, _ => ⟨ys, rfl, rfl, fun i u hu => .inr ⟨fun v hv => (by simp at hv), hu⟩⟩
  | v :: r, ys, h, hp => by
    obtain ⟨hv, hr⟩ := List.pairwise_cons.1 hp
    obtain ⟨y, hy, hb⟩ := h v (List.mem_cons_self ..)
    have hs : stepL ys v = some (ys.set v.k.toNat v) := by unfold stepL; rw [hy]; simp only; rw [if_pos hb]
    obtain ⟨us, h1, h2, h3⟩ := walk_keys r (ys.set v.k.toNat v) (fun x hx => by
      obtain ⟨z, hz, hzb⟩ := h x (List.mem_cons_of_mem _ hx)
      exact ⟨z, by rw [List.getElem?_set_ne (hv x hx)]; exact hz, hzb⟩) hr
    refine ⟨us, by rw [walkL_cons, hs]; exact h1, by rw [h2, List.length_set], fun i u hu => ?_⟩
    rcases h3 i u hu with ⟨x, hx, e1, e2⟩ | ⟨hn, hq⟩
    · exact .inl ⟨x, List.mem_cons_of_mem _ hx, e1, e2⟩
    · rcases set_at hq with ⟨e, e2, _⟩ | ⟨e, hq⟩
      · exact .inl ⟨v, List.mem_cons_self .., e.symm, e2⟩
      · refine .inr ⟨fun x hx => ?_, hq⟩
        rcases List.mem_cons.1 hx with rfl | hx
        · exact fun q => e q.symm
        · exact hn x hx
theorem insL_perm (us : List V) (v : V) : (insL us v).Perm (v :: us) := by
  unfold insL
  refine List.perm_middle.trans ?_
  rw [List.takeWhile_append_dropWhile]
theorem lack_in {xs ys : List V} : ∀ (i : Nat) v, v ∈ lackN xs ys i → ∃ j, j < i ∧ xs[j]? = some v ∧ ∃ y, ys[j]? = some y ∧ lessB y.t y.u v.t v.u = true
  | 0, v, h => by simp [lackN] at h
  | i + 1, v, h => by
    have low : v ∈ lackN xs ys i → ∃ j, j < i + 1 ∧ xs[j]? = some v ∧ ∃ y, ys[j]? = some y ∧ lessB y.t y.u v.t v.u = true := fun q => by
      obtain ⟨j, hj, q⟩ := lack_in i v q
      exact ⟨j, by omega, q⟩
    unfold lackN at h
    split at h
    · rename_i x y hx hy
      split at h
      · rename_i hb
        rcases List.mem_cons.1 ((insL_perm _ _).mem_iff.1 h) with rfl | h
        · exact ⟨i, by omega, hx, y, hy, hb⟩
        · exact low h
      · exact low h
    · exact low h
theorem lack_has {xs ys : List V} {j : Nat} {x y : V} (hx : xs[j]? = some x) (hy : ys[j]? = some y) (hb : lessB y.t y.u x.t x.u = true) : ∀ (i : Nat), j < i → x ∈ lackN xs ys i
  | 0, h => by omega
  | i + 1, h => by
    by_cases e : j = i
    · subst e
      rw [lackN_yes hx hy hb]
      exact (insL_perm _ _).mem_iff.2 (List.mem_cons_self ..)
    · have ih := lack_has hx hy hb i (by omega)
      unfold lackN
      split
      · split
        · exact (insL_perm _ _).mem_iff.2 (List.mem_cons_of_mem _ ih)
        · exact ih
      · exact ih
theorem late_slot {i : Nat} {v y : V} (hv : slotB i v = true) {j : Nat} (hy : slotB j y = true) (hb : lessB y.t y.u v.t v.u = true) : 0 < v.t := by
  apply Classical.byContradiction
  intro hn
  obtain ⟨_, h1, h2⟩ := slot_late hv hn
  have := slot_ge hy
  rw [h1, h2] at hb
  rw [hb] at this
  cases this
theorem lack_key {xs ys : List V} (hx : storeB xs = true) (hy : storeB ys = true) {i : Nat} {v y : V} (h1 : xs[i]? = some v) (h2 : ys[i]? = some y) (hb : lessB y.t y.u v.t v.u = true) : v.k.toNat = i ∧ verV v = true := by
  have ht := late_slot (store_slot hx h1) (store_slot hy h2) hb
  have hk := slot_own (store_slot hx h1) ht
  refine ⟨by rw [hk]; simp, ?_⟩
  have hs := store_slot hx h1
  rw [slotB_ver (noneC_f (.inr (.inl (by omega)))) hk] at hs
  exact hs
theorem lack_pair {xs ys : List V} (hx : storeB xs = true) (hy : storeB ys = true) : ∀ i, (lackN xs ys i).Pairwise (fun a b => a.k.toNat ≠ b.k.toNat)
  | 0 => List.Pairwise.nil
  | i + 1 => by
    have ih := lack_pair hx hy i
    unfold lackN
    split
    · rename_i x y h1 h2
      split
      · rename_i hb
        refine (List.Perm.pairwise_iff (fun q => Ne.symm q) (insL_perm _ _)).2 (List.pairwise_cons.2 ⟨fun v hv => ?_, ih⟩)
        obtain ⟨j, hj, q1, z, q2, q3⟩ := lack_in i v hv
        rw [(lack_key hx hy h1 h2 hb).1, (lack_key hx hy q1 q2 q3).1]
        omega
      · exact ih
    · exact ih
/-- What a node lacks, when it comes, makes it what the other one is. -/
theorem lack_walk {xs ys : List V} (hx : storeB xs = true) (hy : storeB ys = true) (h : Above xs ys) : ∃ us, walkL ys (lackN xs ys 4) = some us ∧ LL us xs := by
  have h4 := storeB_four hx
  obtain ⟨us, h1, h2, h3⟩ := walk_keys (lackN xs ys 4) ys (fun v hv => by
    obtain ⟨j, hj, q1, z, q2, q3⟩ := lack_in 4 v hv
    rw [(lack_key hx hy q1 q2 q3).1]
    exact ⟨z, q2, q3⟩) (lack_pair hx hy 4)
  refine ⟨us, h1, by rw [h2]; exact h.1.symm, fun i u x hu hxi => ?_⟩
  rcases h3 i u hu with ⟨v, hv, e1, rfl⟩ | ⟨hn, hq⟩
  · obtain ⟨j, hj, q1, z, q2, q3⟩ := lack_in 4 u hv
    have := (lack_key hx hy q1 q2 q3).1
    have e : j = i := by omega
    subst e
    rw [q1] at hxi
    injection hxi with hxi
    exact hxi ▸ vlike_refl _
  · rcases h.2 i x u hxi hq with q | q
    · exact vlike_symm q
    · have hi := (List.getElem?_eq_some_iff.1 hxi).1
      exact absurd (lack_key hx hy hxi hq q).1 (hn x (lack_has hxi hq q 4 (by omega)))
theorem lack_ok {n m : Nd} (hn : nodeB n = true) (hm : storeB m.ss = true) : nodeB (lackNd n m) = true := by
  obtain ⟨h1, _, _⟩ := nodeB_parts hn
  refine nodeB_mk h1 ?_ (fun i v hi => ?_)
  · have := lackN_len n.ss m.ss 4
    show (lackN n.ss m.ss 4).length ≤ 6
    omega
  · obtain ⟨j, hj, q1, z, q2, q3⟩ := lack_in 4 v (List.mem_of_getElem? hi)
    exact (lack_key h1 hm q1 q2 q3).2
/-- What stands where in a chain without a node. -/
theorem fall_at {ns : List Nd} {k i : Nat} {x : Nd} (hk : k < ns.length) (hx : (fallG ns k)[i]? = some x) : ∃ y, (ns.eraseIdx k)[i]? = some y ∧ x.ss = y.ss ∧
    ((i + 1 + 1 = ns.length ∧ x = bare ⟨y.sa, y.sc, y.ss, x.wa, x.wc, x.ws⟩) ∨ (i + 1 + 1 ≠ ns.length ∧ i + 1 = k ∧ ∃ m, (ns.eraseIdx k)[k]? = some m ∧ x = lackNd y m) ∨ (i + 1 + 1 ≠ ns.length ∧ i + 1 ≠ k ∧ x = y)) := by
  have hl := erase_len hk
  unfold fallG at hx
  have ho : ∀ z, (owedN (ns.eraseIdx k) k)[i]? = some z → ∃ y, (ns.eraseIdx k)[i]? = some y ∧ ((i + 1 = k ∧ k + 1 < ns.length ∧ ∃ m, (ns.eraseIdx k)[k]? = some m ∧ z = lackNd y m) ∨ (¬ (i + 1 = k ∧ k + 1 < ns.length) ∧ z = y)) := fun z hz => by
    by_cases hc : 0 < k ∧ k < (ns.eraseIdx k).length
    · obtain ⟨n, hn⟩ : ∃ n, (ns.eraseIdx k)[k - 1]? = some n := ⟨_, List.getElem?_eq_getElem (by omega)⟩
      obtain ⟨m, hm⟩ : ∃ m, (ns.eraseIdx k)[k]? = some m := ⟨_, List.getElem?_eq_getElem hc.2⟩
      rw [owedN_at hc.1 hn hm] at hz
      rcases set_at hz with ⟨e, rfl, _⟩ | ⟨e, q⟩
      · subst e
        exact ⟨n, hn, .inl ⟨by omega, by omega, m, hm, rfl⟩⟩
      · exact ⟨z, q, .inr ⟨by omega, rfl⟩⟩
    · rw [owedN_head hc] at hz
      exact ⟨z, hz, .inr ⟨by omega, rfl⟩⟩
  obtain ⟨l, hlast⟩ : ∃ l, (owedN (ns.eraseIdx k) k)[(owedN (ns.eraseIdx k) k).length - 1]? = some l := by
    have hi : i < (owedN (ns.eraseIdx k) k).length := by have := (List.getElem?_eq_some_iff.1 hx).1; rw [lastN_len] at this; exact this
    exact ⟨_, List.getElem?_eq_getElem (by omega)⟩
  have hi : i < ns.length - 1 := by have := (List.getElem?_eq_some_iff.1 hx).1; rw [lastN_len, owedN_len, hl] at this; exact this
  rw [lastN_at hlast, owedN_len, hl] at hx
  rw [owedN_len, hl] at hlast
  rcases set_at hx with ⟨e, rfl, _⟩ | ⟨e, q⟩
  · subst e
    obtain ⟨y, hy, q⟩ := ho l hlast
    rcases q with ⟨_, q, _⟩ | ⟨_, rfl⟩
    · omega
    · exact ⟨l, hy, rfl, .inl ⟨by omega, rfl⟩⟩
  · obtain ⟨y, hy, q⟩ := ho x q
    rcases q with ⟨q1, q2, m, hm, rfl⟩ | ⟨q1, rfl⟩
    · exact ⟨y, hy, rfl, .inr (.inl ⟨by omega, q1, m, hm, rfl⟩)⟩
    · exact ⟨x, hy, rfl, .inr (.inr ⟨by omega, by omega, rfl⟩)⟩
theorem erase_at {ns : List Nd} {k i : Nat} {x : Nd} (h : (ns.eraseIdx k)[i]? = some x) : ns[if i < k then i else i + 1]? = some x := by
  rw [List.getElem?_eraseIdx] at h
  split at h
  · rename_i q
    rw [if_pos q]
    exact h
  · rename_i q
    rw [if_neg q]
    exact h
/-- A chain without a node is valid. -/
theorem chain_fall {ns : List Nd} {k : Nat} (h : chainB ns = true) (h2 : 2 ≤ ns.length) (hk : k < ns.length) : chainB (fallG ns k) = true := by
  obtain ⟨h0, h1, _⟩ := chainB_parts h
  have hl := fallG_len hk
  refine chain_mk (by rw [hl]; omega) (fun i x hx => ?_) (fun i x x' hx hx' => ?_) (fun i x hi hx => ?_)
  · obtain ⟨y, hy, _, q⟩ := fall_at hk hx
    have hb := h1 _ y (erase_at hy)
    rcases q with ⟨_, e⟩ | ⟨_, _, m, hm, rfl⟩ | ⟨_, _, rfl⟩
    · rw [e]
      exact nodeB_mk (nodeB_parts hb).1 (Nat.zero_le _) (fun j v hj => by simp [bare] at hj)
    · exact lack_ok hb (nodeB_parts (h1 _ m (erase_at hm))).1
    · exact hb
  · obtain ⟨y, hy, e, q⟩ := fall_at hk hx
    obtain ⟨y', hy', e', _⟩ := fall_at hk hx'
    have hi := (List.getElem?_eq_some_iff.1 hx').1
    rw [hl] at hi
    have ey := erase_at hy
    have ey' := erase_at hy'
    rcases q with ⟨q, _⟩ | ⟨_, q, m, hm, rfl⟩ | ⟨_, q, rfl⟩
    · omega
    · -- where the node fell
      subst q
      rw [hm] at hy'
      injection hy' with hy'
      subst hy'
      rw [if_pos (by omega)] at ey
      rw [if_neg (by omega)] at ey'
      obtain ⟨us, hu, hul⟩ := lack_walk (nodeB_parts (h1 _ y ey)).1 (nodeB_parts (h1 _ m ey')).1 (chain_above h 2 i y m ey ey')
      refine linkB_mk (us := us) ?_ hul
      rw [e']
      exact hu
    · have hlk : linkB x y' = true := by
        by_cases c : i + 1 < k
        · rw [if_pos (by omega)] at ey
          rw [if_pos c] at ey'
          exact chain_link h ey ey'
        · rw [if_neg (by omega)] at ey
          rw [if_neg (by omega)] at ey'
          exact chain_link h ey ey'
      exact link_tail hlk _ e'
  · obtain ⟨y, hy, _, q⟩ := fall_at hk hx
    rw [hl] at hi
    rcases q with ⟨_, e⟩ | ⟨q, _⟩ | ⟨q, _⟩
    · rw [e]
      rfl
    · omega
    · omega
end Go.Proofs.YtjnloillcgeodaaGreat
/- What a chain shows: the next node shows nothing later; whichever node falls, it, or something later, is at the head. No condition. -/
namespace Go.Proofs.YtjnloillcgeodaaGreat
open Go.RowKit Go.Joins

theorem shows_parts {ns : List Nd} {k y : Int} {vv : V} (h : showsR ns k y = some vv) : chainB ns = true ∧ ∃ (kn yn mi : Nat) (n : Nd), k = (kn : Int) ∧ kn < ns.length ∧ y = (yn : Int) ∧ yn < 4 ∧ mi = (if kn = 0 ∧ 1 < ns.length then 1 else kn) ∧ ns[mi]? = some n ∧ n.ss[yn]? = some vv := by
  unfold showsR at h
  split at h
  · rename_i hc
    obtain ⟨h1, ⟨h2, h3⟩, h4, h5⟩ := hc
    refine ⟨h1, k.toNat, y.toNat, (if k.toNat = 0 ∧ 1 < ns.length then 1 else k.toNat), ?_⟩
    have e : (if k = 0 ∧ 1 < ns.length then 1 else k.toNat) = (if k.toNat = 0 ∧ 1 < ns.length then 1 else k.toNat) := by
      by_cases q : k = 0
      · subst q
        simp
      · rw [if_neg (fun a => q a.1), if_neg (fun a => q (by omega))]
    rw [e] at h
    split at h
    · rename_i n hn
      exact ⟨n, by omega, by omega, by omega, by omega, rfl, hn, h⟩
    · cases h
  · cases h
theorem shows_at {ns : List Nd} {kn yn : Nat} {n : Nd} {v : V} (hc : chainB ns = true) (hk : kn < ns.length) (hy : yn < 4) (hn : ns[if kn = 0 ∧ 1 < ns.length then 1 else kn]? = some n) (hv : n.ss[yn]? = some v) : showsR ns (kn : Int) (yn : Int) = some v := by
  refine showsR_yes hc ⟨by omega, by omega⟩ hy ?_ hn hv
  by_cases q : kn = 0
  · subst q
    simp
  · rw [if_neg (fun a => q (by omega)), if_neg (fun a => q a.1), Int.toNat_natCast]
theorem less_self (v : V) : lessB v.t v.u v.t v.u = false := by
  unfold lessB
  simp only [decide_eq_false_iff_not]
  omega
theorem shows_next {ns : List Nd} {kn yn mi : Nat} {n : Nd} {vv : V} (hc : chainB ns = true) (hk : kn + 1 < ns.length) (hy : yn < 4) (hmi : mi = (if kn = 0 ∧ 1 < ns.length then 1 else kn)) (hn : ns[mi]? = some n) (hv : n.ss[yn]? = some vv) :
    ∃ vn, showsR ns ((kn : Int) + 1) (yn : Int) = some vn ∧ lessB vv.t vv.u vn.t vn.u = false := by
  obtain ⟨m, hm⟩ : ∃ m, ns[kn + 1]? = some m := ⟨_, List.getElem?_eq_getElem hk⟩
  have h4 := storeB_four (nodeB_parts ((chainB_parts hc).2.1 _ m hm)).1
  obtain ⟨vn, hvn⟩ : ∃ vn, m.ss[yn]? = some vn := ⟨_, List.getElem?_eq_getElem (by omega)⟩
  have e : ((kn : Int) + 1) = ((kn + 1 : Nat) : Int) := by omega
  refine ⟨vn, ?_, ?_⟩
  · rw [e]
    exact shows_at hc hk hy (by rw [if_neg (by omega)]; exact hm) hvn
  · by_cases q : kn = 0
    · subst q
      rw [if_pos ⟨rfl, by omega⟩] at hmi
      subst hmi
      rw [hn] at hm
      injection hm with hm
      subst hm
      rw [hv] at hvn
      injection hvn with hvn
      subst hvn
      exact less_self _
    · rw [if_neg (fun a => q a.1)] at hmi
      subst hmi
      exact above_not (chain_above hc 1 mi n m hn hm) hv hvn
theorem shows_fall {ns : List Nd} {kn yn mi i : Nat} {n : Nd} {vv : V} (hc : chainB ns = true) (h2 : 2 ≤ ns.length) (hi : i < ns.length) (_hkn : kn < ns.length) (hy : yn < 4) (hmi : mi = (if kn = 0 ∧ 1 < ns.length then 1 else kn)) (hn : ns[mi]? = some n) (hv : n.ss[yn]? = some vv) :
    ∃ x h, (fallG ns i)[0]? = some x ∧ x.ss[yn]? = some h ∧ lessB h.t h.u vv.t vv.u = false := by
  obtain ⟨x, hx⟩ : ∃ x, (fallG ns i)[0]? = some x := ⟨_, List.getElem?_eq_getElem (by rw [fallG_len hi]; omega)⟩
  obtain ⟨z, hz, hzs, -⟩ := fall_at hi hx
  have hz' := erase_at hz
  have h4 := storeB_four (nodeB_parts ((chainB_parts (chain_fall hc h2 hi)).2.1 _ x hx)).1
  obtain ⟨h, hh⟩ : ∃ h, x.ss[yn]? = some h := ⟨_, List.getElem?_eq_getElem (by omega)⟩
  refine ⟨x, h, hx, hh, ?_⟩
  rw [hzs] at hh
  have hm1 : 1 ≤ mi := by rw [hmi]; split <;> omega
  have key : ∀ a, a ≤ 1 → ns[a]? = some z → lessB h.t h.u vv.t vv.u = false := fun a ha hza => by
    obtain ⟨d, hd⟩ : ∃ d, mi = a + d := ⟨mi - a, by omega⟩
    exact above_not (chain_above hc d a z n hza (by rw [← hd]; exact hn)) hh hv
  split at hz'
  · exact key 0 (by omega) hz'
  · exact key 1 (by omega) hz'
end Go.Proofs.YtjnloillcgeodaaGreat
/- Contract of the model's ChainFall. Condition: sizes that memory holds. -/
namespace Go.Proofs.YtjnloillcgeodaaGreat
open Go.RowKit Go.Joins
attribute [local go_sem ↓] Go.wp_at_zero Go.wp_at_succ

end Go.Proofs.YtjnloillcgeodaaGreat
