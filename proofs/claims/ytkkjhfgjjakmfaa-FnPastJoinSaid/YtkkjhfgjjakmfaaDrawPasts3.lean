/- Contracts of the draws of two vectors, whatever the code. Condition: at most 1048576 bytes. -/
import Derived.Test.YtkkjhfgjjakmfaaDrawPasts2
import Derived.Test.YtkkjhfgjjakmfaaPastJoin
namespace Go.Proofs.Ytkkjhfgjjakmfaa
open Go.RowKit Go.Joins
attribute [local go_sem ↓] Go.wp_at_zero Go.wp_at_succ

theorem PastIn.aside {w : World} {lo g : Nat} {a : Option Addr} {ts : List (Int × Int)} (h : PastIn w lo g a ts) {p : Addr} (hp : p.block < lo) (u : Value) : PastIn (w.setCell p u) lo g a ts := by
  obtain ⟨b, off, ha, hl, hne, hb, hx⟩ := h
  refine ⟨b, off, ha, hl, hne, by simpa [World.setCell] using hb, fun i x hi => ?_⟩
  have hk : ∀ o : Nat, (w.setCell p u).cell? ⟨b, o, none⟩ = w.cell? ⟨b, o, none⟩ := fun o => World.cell?_of_block (w := w) (w' := w.setCell p u) (a := ⟨b, o, none⟩) (Below.heap_setCell w p u b (by omega))
  exact ⟨(hk _).trans (hx i x hi).1, (hk _).trans (hx i x hi).2⟩
theorem pastB_l4 {ts : List (Int × Int)} (h : pastB ts = true) : ts.length = 4 := by
  obtain ⟨x0, x1, x2, x3, rfl⟩ := four_of h
  rfl
theorem l1Join_len (a a' : Option Addr) (c c' : Nat) (ts us : List (Int × Int)) (w : World) (h4 : ts.length = 4) (h4' : us.length = 4) (ht : Tg w w.heap.size a ts) (hu : Tg w w.heap.size a' us) :
    Calls Try.prog 48 #[.agg #[.slice a ts.length c], .agg #[.slice a' us.length c']] w (JoinedP w (mxL ts us)) := by
  rw [h4, h4']
  exact l1Join_any a a' c c' ts us w h4 h4' ht hu
/-- What a draw of two vectors leaves. -/
def TwoPasts (w : World) (e : Ending) (w' : World) : Prop :=
  ∃ (a1 a2 : Option Addr) (c1 c2 : Nat) (ts us : List (Int × Int)), e = .returned (.tuple #[.agg #[.slice a1 ts.length c1], .agg #[.slice a2 us.length c2]]) ∧ ts.length ≤ 4 ∧ us.length ≤ 4 ∧ Tg w' w'.heap.size a1 ts ∧ Tg w' w'.heap.size a2 us ∧ Below w.heap.size w w'
/-- Two drawn vectors, each in a box, and the boxes of the answer. -/
structure DW (w : World) (g p5 p6 : Nat) (a1 a2 : Option Addr) (c1 c2 : Nat) (ts us : List (Int × Int)) (wr : World) : Prop where
  r2 : Blk wr w.heap.size 25 #[.slice none 0 0]
  r3 : Blk wr (w.heap.size + 1) 25 #[.slice none 0 0]
  b5 : Blk wr p5 25 #[.slice a1 ts.length c1]
  b6 : Blk wr p6 25 #[.slice a2 us.length c2]
  t1 : PastIn wr (w.heap.size + 2) g a1 ts
  t2 : PastIn wr (w.heap.size + 2) g a2 us
  below : Below w.heap.size w wr
  lo5 : w.heap.size + 2 ≤ p5
  lo6 : w.heap.size + 2 ≤ p6
  l1 : ts.length ≤ 4
  l2 : us.length ≤ 4
section
variable {w wr w2 : World} {g p5 p6 c1 c2 : Nat} {a1 a2 : Option Addr} {ts us : List (Int × Int)}
theorem DW.kept (h : DW w g p5 p6 a1 a2 c1 c2 ts us wr) (hg2 : w.heap.size + 2 ≤ g) (h5 : p5 ≠ g) (h6 : p6 ≠ g) (hg : wr.grownBy w2 (some g)) : DW w g p5 p6 a1 a2 c1 c2 ts us w2 :=
  ⟨h.r2.kept hg (by intro e; injection e; omega), h.r3.kept hg (by intro e; injection e; omega), h.b5.kept hg (by intro e; injection e; omega), h.b6.kept hg (by intro e; injection e; omega), h.t1.kept hg, h.t2.kept hg, h.below.grown hg h.below.size (fun k hk => by injection hk; omega), h.lo5, h.lo6, h.l1, h.l2⟩
theorem DW.on (h : DW w g p5 p6 a1 a2 c1 c2 ts us wr) (hb : Below wr.heap.size wr w2) : DW w g p5 p6 a1 a2 c1 c2 ts us w2 :=
  ⟨h.r2.on hb, h.r3.on hb, h.b5.on hb, h.b6.on hb, h.t1.on hb, h.t2.on hb, h.below.trans (hb.mono h.below.size), h.lo5, h.lo6, h.l1, h.l2⟩
end

set_option maxRecDepth 100000 in
set_option maxHeartbeats 1000000 in
theorem drawPastWithin_any (w : World) (a : Option Addr) (len cap : Nat) (hc : Code0 w a len cap) (hl : len ≤ 1048576) :
    Calls Try.prog 17 #[.slice a len cap] w (TwoPasts w) := by
  have S0 := ((Inv.start w).box 25 #[.slice none 0 0]).box 25 #[.slice none 0 0]
  simp only [World.size_alloc] at S0
  have C0 := hc.on S0.below
  go_enter Try.func17, Try.ntmps17
  go_wp2_with fail
  generalize hW : (w.alloc (.cells #[.slice none 0 0] 25)).alloc (.cells #[.slice none 0 0] 25) = W at S0 C0 ⊢
  have zW : W.heap.size = w.heap.size + 1 + 1 := by rw [← hW]; simp
  clear hW
  refine (l20Open_any W a len cap C0 hl).mono ?_
  rintro e w1 ⟨ra, rl, rc, rfl, hb1, h1⟩
  have S1 := S0.on hb1
  have z1 := h1.inside
  obtain ⟨g, eg⟩ : ∃ g, g = W.heap.size := ⟨_, rfl⟩
  rw [← eg] at h1 z1 ⊢
  have hg2 : w.heap.size + 2 ≤ g := by omega
  have hgS : ∀ x ∈ [(w.heap.size + 1, (25 : TypeId), (#[.slice none 0 0] : Array Value)), (w.heap.size, (25 : TypeId), (#[.slice none 0 0] : Array Value))], x.1 ≠ g := by
    intro x hx
    simp only [List.mem_cons, List.not_mem_nil, or_false] at hx
    rcases hx with rfl | rfl <;> simp only <;> omega
  have HGS := hide hgS
  clear S0 C0 hb1 hc eg zW hgS
  go_wp2_with fail
  refine (l20Past_any w1 g ra rl rc 0 h1 (by omega)).mono ?_
  rintro e w2 ⟨a1, c1, ts, rfl, hts, hp1, hg1, h2⟩
  have S2 := (S1.part hg1 (fun k e => by injection e; omega) (fun x hx k e => by injection e with e; rw [← e]; exact HGS.out x hx)).top.box 25 #[.slice a1 ts.length c1]
  have P1 := (hp1.low (show w.heap.size + 2 ≤ w1.heap.size by omega)).on (below_alloc1 w2 (.cells #[.slice a1 ts.length c1] 25))
  have R2 := h2.alloc (.cells #[.slice a1 ts.length c1] 25)
  have z2 := h2.inside
  have zg1 := hg1.size
  clear S1 h1 hp1 hg1 h2
  go_wp2_with fail
  generalize hW2 : w2.alloc (.cells #[.slice a1 ts.length c1] 25) = W2 at S2 P1 R2 ⊢
  have zW2 : w2.heap.size < W2.heap.size := by rw [← hW2]; simp
  clear hW2
  refine (l20Past_any W2 g ra rl rc _ R2 (by omega)).mono ?_
  rintro e w3 ⟨a2, c2, us, rfl, hus, hp2, hg3, h3⟩
  have S3 := (S2.part hg3 (fun k e => by injection e; omega) (fun x hx k e => by
    injection e with e
    simp only [List.mem_cons] at hx
    rcases hx with rfl | hx
    · simp only; omega
    · rw [← e]; exact HGS.out x (by simpa using hx)))
  have P1' := P1.kept hg3
  have zg3 := hg3.size
  have D0 : DW w g w2.heap.size w3.heap.size a1 a2 c1 c2 ts us (w3.alloc (.cells #[.slice a2 us.length c2] 25)) :=
    ⟨(S3.nth 2 rfl).more _, (S3.nth 1 rfl).more _, (S3.nth 0 rfl).more _, Blk.made _ _ _, P1'.on (below_alloc1 _ _), (hp2.low (by omega)).on (below_alloc1 _ _), (S3.alloc _).below, by omega, by omega, by omega, by omega⟩
  have R3 := h3.alloc (.cells #[.slice a2 us.length c2] 25)
  have z3 := h3.inside
  have h5 : w2.heap.size ≠ g := by omega
  have h6 : w3.heap.size ≠ g := by omega
  clear S2 S3 P1 P1' R2 hp2 hg3 h3
  go_wp2_with fail
  generalize w3.alloc (.cells #[.slice a2 us.length c2] 25) = W3 at D0 R3 ⊢
  refine (pick_any W3 g ra rl rc _ _ R3 (by omega) (by omega)).mono ?_
  rintro e w4 ⟨x, hx, rfl, hg4, h4⟩
  have D1 := D0.kept hg2 h5 h6 hg4
  clear D0 R3 hg4 h4
  generalize w2.heap.size = p5 at *
  generalize w3.heap.size = p6 at *
  have fin0 : ∀ wr : World, DW w g p5 p6 a1 a2 c1 c2 ts us wr → TwoPasts w (.returned (.tuple #[.agg #[.slice a1 ts.length c1], .agg #[.slice a2 us.length c2]])) ((wr.setCell ⟨w.heap.size, 0, none⟩ (.slice a1 ts.length c1)).setCell ⟨w.heap.size + 1, 0, none⟩ (.slice a2 us.length c2)) := fun wr D =>
    ⟨a1, a2, c1, c2, ts, us, rfl, D.l1, D.l2, ((D.t1.aside (p := ⟨w.heap.size, 0, none⟩) (by simp only; omega) _).aside (p := ⟨w.heap.size + 1, 0, none⟩) (by simp only; omega) _).tg, ((D.t2.aside (p := ⟨w.heap.size, 0, none⟩) (by simp only; omega) _).aside (p := ⟨w.heap.size + 1, 0, none⟩) (by simp only; omega) _).tg, (D.below.setCell (p := ⟨w.heap.size, 0, none⟩) (Nat.le_refl _) _).setCell (p := ⟨w.heap.size + 1, 0, none⟩) (by simp) _⟩
  have FIN := hide fin0
  clear fin0
  have k5 := D1.b5.one.1
  have k6 := D1.b6.one.1
  by_cases hx0 : x = 0
  · subst hx0
    go_wp2_with fail
    refine (l1PastOk_any a1 c1 ts w4 (by have := D1.l1; omega) D1.t1.tg).mono ?_
    rintro e w5 ⟨rfl, hb5⟩
    have D2 := D1.on hb5
    clear D1 k5 k6
    have k6 := D2.b6.one.1
    cases hp : pastB ts
    · go_wp2_with fail
      clear k6
      have E := D2.on (Below.refl _ _).drew
      have q4 := ((D2.r3.aside (p := ⟨w.heap.size, 0, none⟩) (by simp only; omega) (.slice a1 ts.length c1)).drew).one
      have l5 := E.lo5
      have l6 := E.lo6
      have q2 := E.r2.one
      have q3 := E.r3.one
      refine wp_region_noPanic ?_
      refine wp_region_held_drew (S := (fun w' => (w'.cell? ⟨p5, 0, none⟩ = some (.slice a1 ts.length c1) ∧ w'.cell? ⟨p6, 0, none⟩ = some (.slice a2 us.length c2)) ∧ True ∧ Blk w' p5 25 #[.slice a1 ts.length c1] ∧ Blk w' p6 25 #[.slice a2 us.length c2])) (by kernel_rfl) (by exact ⟨⟨E.b5.at 0, E.b6.at 0⟩, trivial, E.b5, E.b6⟩) (fun hHeld => ?_)
      refine take_run 0 (some 28) (v := ?_) rfl rfl (by kernel_rfl) (by kernel_rfl) (by kernel_rfl) (fun _ _ _ h => h) (by rfl) ?_ hHeld ?_
      rotate_left
      · ((intro w hSw); (try dsimp only at hSw); go_simp <;> with_reducible rfl)
      simp only [Act.put, List.setIfInBounds_toArray, List.set_cons_zero, List.set_cons_succ]
      refine take_run 1 (some 29) (v := ?_) rfl rfl (by kernel_rfl) (by kernel_rfl) (by kernel_rfl) (fun _ _ _ h => h) (by rfl) ?_ hHeld ?_
      rotate_left
      · ((intro w hSw); (try dsimp only at hSw); go_simp <;> with_reducible rfl)
      simp only [Act.put, List.setIfInBounds_toArray, List.set_cons_zero, List.set_cons_succ]
      refine take_one 2 (by kernel_rfl) rfl (fun K hK => ?_)
      go_simp
      refine hK.out _ _ (by exact ⟨⟨(hHeld.2.2.1.aside (p := ⟨w.heap.size, 0, none⟩) (by simp only; omega) (.slice a1 ts.length c1)).at 0, (hHeld.2.2.2.aside (p := ⟨w.heap.size, 0, none⟩) (by simp only; omega) (.slice a1 ts.length c1)).at 0⟩, trivial, (hHeld.2.2.1.aside (p := ⟨w.heap.size, 0, none⟩) (by simp only; omega) (.slice a1 ts.length c1)), (hHeld.2.2.2.aside (p := ⟨w.heap.size, 0, none⟩) (by simp only; omega) (.slice a1 ts.length c1))⟩) (fun hHeld => ?_)
      clear hK K
      refine take_one 3 (by kernel_rfl) rfl (fun K hK => ?_)
      go_simp
      refine hK.out _ _ (by exact ⟨⟨(hHeld.2.2.1.aside (p := ⟨w.heap.size + 1, 0, none⟩) (by simp only; omega) (.slice a2 us.length c2)).at 0, (hHeld.2.2.2.aside (p := ⟨w.heap.size + 1, 0, none⟩) (by simp only; omega) (.slice a2 us.length c2)).at 0⟩, trivial, (hHeld.2.2.1.aside (p := ⟨w.heap.size + 1, 0, none⟩) (by simp only; omega) (.slice a2 us.length c2)), (hHeld.2.2.2.aside (p := ⟨w.heap.size + 1, 0, none⟩) (by simp only; omega) (.slice a2 us.length c2))⟩) (fun hHeld => ?_)
      clear hK K
      refine wpAnyH_done (by kernel_rfl) ?_ _
      refine NoPanic.normal ?_
      clear hHeld
      have HE := hide E
      have F2 := ((D2.r2.put 0 (.slice a1 ts.length c1)).aside (p := ⟨w.heap.size + 1, 0, none⟩) (by simp) (.slice a2 us.length c2)).drew
      have F3 := ((D2.r3.aside (p := ⟨w.heap.size, 0, none⟩) (by simp) (.slice a1 ts.length c1)).put 0 (.slice a2 us.length c2)).drew
      simp only [List.setIfInBounds_toArray, List.set_cons_zero] at F2 F3
      have q6 := F2.one.1
      have q7 := F3.one.1
      clear E D2
      go_wp2
      refine bodyPost_ret (v := .tuple #[.agg #[.slice a1 ts.length c1], .agg #[.slice a2 us.length c2]]) (by simp [results, Try.results17, go_sem, q6, q7]) rfl ?_
      exact FIN.out _ HE.out
    · go_wp2_with fail
      refine (l1PastOk_any a2 c2 us w5 (by have := D2.l2; omega) D2.t2.tg).mono ?_
      rintro e w6 ⟨rfl, hb6⟩
      have D3 := D2.on hb6
      clear D2 k6
      cases hq : pastB us
      · go_wp2_with fail
        have E := D3.on (Below.refl _ _).drew
        have q4 := ((D3.r3.aside (p := ⟨w.heap.size, 0, none⟩) (by simp only; omega) (.slice a1 ts.length c1)).drew).one
        have l5 := E.lo5
        have l6 := E.lo6
        have q2 := E.r2.one
        have q3 := E.r3.one
        refine wp_region_noPanic ?_
        refine wp_region_held_drew (S := (fun w' => (w'.cell? ⟨p5, 0, none⟩ = some (.slice a1 ts.length c1) ∧ w'.cell? ⟨p6, 0, none⟩ = some (.slice a2 us.length c2)) ∧ True ∧ Blk w' p5 25 #[.slice a1 ts.length c1] ∧ Blk w' p6 25 #[.slice a2 us.length c2])) (by kernel_rfl) (by exact ⟨⟨E.b5.at 0, E.b6.at 0⟩, trivial, E.b5, E.b6⟩) (fun hHeld => ?_)
        refine take_run 0 (some 28) (v := ?_) rfl rfl (by kernel_rfl) (by kernel_rfl) (by kernel_rfl) (fun _ _ _ h => h) (by rfl) ?_ hHeld ?_
        rotate_left
        · ((intro w hSw); (try dsimp only at hSw); go_simp <;> with_reducible rfl)
        simp only [Act.put, List.setIfInBounds_toArray, List.set_cons_zero, List.set_cons_succ]
        refine take_run 1 (some 29) (v := ?_) rfl rfl (by kernel_rfl) (by kernel_rfl) (by kernel_rfl) (fun _ _ _ h => h) (by rfl) ?_ hHeld ?_
        rotate_left
        · ((intro w hSw); (try dsimp only at hSw); go_simp <;> with_reducible rfl)
        simp only [Act.put, List.setIfInBounds_toArray, List.set_cons_zero, List.set_cons_succ]
        refine take_one 2 (by kernel_rfl) rfl (fun K hK => ?_)
        go_simp
        refine hK.out _ _ (by exact ⟨⟨(hHeld.2.2.1.aside (p := ⟨w.heap.size, 0, none⟩) (by simp only; omega) (.slice a1 ts.length c1)).at 0, (hHeld.2.2.2.aside (p := ⟨w.heap.size, 0, none⟩) (by simp only; omega) (.slice a1 ts.length c1)).at 0⟩, trivial, (hHeld.2.2.1.aside (p := ⟨w.heap.size, 0, none⟩) (by simp only; omega) (.slice a1 ts.length c1)), (hHeld.2.2.2.aside (p := ⟨w.heap.size, 0, none⟩) (by simp only; omega) (.slice a1 ts.length c1))⟩) (fun hHeld => ?_)
        clear hK K
        refine take_one 3 (by kernel_rfl) rfl (fun K hK => ?_)
        go_simp
        refine hK.out _ _ (by exact ⟨⟨(hHeld.2.2.1.aside (p := ⟨w.heap.size + 1, 0, none⟩) (by simp only; omega) (.slice a2 us.length c2)).at 0, (hHeld.2.2.2.aside (p := ⟨w.heap.size + 1, 0, none⟩) (by simp only; omega) (.slice a2 us.length c2)).at 0⟩, trivial, (hHeld.2.2.1.aside (p := ⟨w.heap.size + 1, 0, none⟩) (by simp only; omega) (.slice a2 us.length c2)), (hHeld.2.2.2.aside (p := ⟨w.heap.size + 1, 0, none⟩) (by simp only; omega) (.slice a2 us.length c2))⟩) (fun hHeld => ?_)
        clear hK K
        refine wpAnyH_done (by kernel_rfl) ?_ _
        refine NoPanic.normal ?_
        clear hHeld
        have HE := hide E
        have F2 := ((D3.r2.put 0 (.slice a1 ts.length c1)).aside (p := ⟨w.heap.size + 1, 0, none⟩) (by simp) (.slice a2 us.length c2)).drew
        have F3 := ((D3.r3.aside (p := ⟨w.heap.size, 0, none⟩) (by simp) (.slice a1 ts.length c1)).put 0 (.slice a2 us.length c2)).drew
        simp only [List.setIfInBounds_toArray, List.set_cons_zero] at F2 F3
        have q6 := F2.one.1
        have q7 := F3.one.1
        clear E D3
        go_wp2
        refine bodyPost_ret (v := .tuple #[.agg #[.slice a1 ts.length c1], .agg #[.slice a2 us.length c2]]) (by simp [results, Try.results17, go_sem, q6, q7]) rfl ?_
        exact FIN.out _ HE.out
      · have HP := hide hp
        have HQ := hide hq
        clear hp hq
        go_wp2_with fail
        have E := D3.on (Below.refl _ _).drew
        have q4 := ((D3.r3.aside (p := ⟨w.heap.size, 0, none⟩) (by simp only; omega) (.slice a1 ts.length c1)).drew).one
        have l5 := E.lo5
        have l6 := E.lo6
        have HE := hide E
        refine wp_region_noPanic ?_
        refine wp_region_held_drew (S := (fun w' => (w'.cell? ⟨p5, 0, none⟩ = some (.slice a1 ts.length c1) ∧ w'.cell? ⟨p6, 0, none⟩ = some (.slice a2 us.length c2)) ∧ True ∧ Blk w' p5 25 #[.slice a1 ts.length c1] ∧ Blk w' p6 25 #[.slice a2 us.length c2])) (by kernel_rfl) (by exact ⟨⟨E.b5.at 0, E.b6.at 0⟩, trivial, E.b5, E.b6⟩) (fun hHeld => ?_)
        refine take_run 0 (some 24) (v := ?_) rfl rfl (by kernel_rfl) (by kernel_rfl) (by kernel_rfl) (fun _ _ _ h => h) (by rfl) ?_ hHeld ?_
        rotate_left
        · ((intro w hSw); (try dsimp only at hSw); go_simp <;> with_reducible rfl)
        simp only [Act.put, List.setIfInBounds_toArray, List.set_cons_zero, List.set_cons_succ]
        refine take_run 1 (some 25) (v := ?_) rfl rfl (by kernel_rfl) (by kernel_rfl) (by kernel_rfl) (fun _ _ _ h => h) (by rfl) ?_ hHeld ?_
        rotate_left
        · ((intro w hSw); (try dsimp only at hSw); go_simp <;> with_reducible rfl)
        simp only [Act.put, List.setIfInBounds_toArray, List.set_cons_zero, List.set_cons_succ]
        refine take_run 2 (some 26) (v := ?_) rfl rfl (by kernel_rfl) (by kernel_rfl) (by kernel_rfl) (fun _ _ _ h => h) (by rfl) ?_ hHeld ?_
        rotate_left
        · ((intro w hSw); (try dsimp only at hSw); go_simp <;> with_reducible rfl)
        simp only [Act.put, List.setIfInBounds_toArray, List.set_cons_zero, List.set_cons_succ]
        refine take_one 3 (by kernel_rfl) rfl (fun K hK => ?_)
        go_simp
        ((with_reducible refine (l1Join_len a1 a2 c1 c2 ts us _ (pastB_l4 HP.out) (pastB_l4 HQ.out) HE.out.t1.tg HE.out.t2.tg).mono ?_); rintro e w7 ⟨g7, cap7, T7, cur7, rfl, hg7, hB7, hs7, hc7, hb7⟩; have HC7 := hide hc7; have E7 := HE.out.on hb7; have q2 := E7.r2.one; have q3 := E7.r3.one; have q5 := (E7.r3.aside (p := ⟨w.heap.size, 0, none⟩) (by simp only; omega) (.slice a1 ts.length c1)).one; clear hc7)
        try go_wp2_with fail
        refine hK.out _ _ (by exact ⟨⟨E7.b5.at 0, E7.b6.at 0⟩, trivial, E7.b5, E7.b6⟩) (fun hHeld => ?_)
        clear hK K
        refine take_one 4 (by kernel_rfl) rfl (fun K hK => ?_)
        go_simp
        refine hK.out _ _ (by exact ⟨⟨(hHeld.2.2.1.aside (p := ⟨w.heap.size, 0, none⟩) (by simp only; omega) (.slice a1 ts.length c1)).at 0, (hHeld.2.2.2.aside (p := ⟨w.heap.size, 0, none⟩) (by simp only; omega) (.slice a1 ts.length c1)).at 0⟩, trivial, (hHeld.2.2.1.aside (p := ⟨w.heap.size, 0, none⟩) (by simp only; omega) (.slice a1 ts.length c1)), (hHeld.2.2.2.aside (p := ⟨w.heap.size, 0, none⟩) (by simp only; omega) (.slice a1 ts.length c1))⟩) (fun hHeld => ?_)
        clear hK K
        refine take_one 5 (by kernel_rfl) rfl (fun K hK => ?_)
        go_simp
        refine hK.out _ _ (by exact ⟨⟨(hHeld.2.2.1.aside (p := ⟨w.heap.size + 1, 0, none⟩) (by simp only; omega) (.slice (some ⟨g7, 0, none⟩) 4 cap7)).at 0, (hHeld.2.2.2.aside (p := ⟨w.heap.size + 1, 0, none⟩) (by simp only; omega) (.slice (some ⟨g7, 0, none⟩) 4 cap7)).at 0⟩, trivial, (hHeld.2.2.1.aside (p := ⟨w.heap.size + 1, 0, none⟩) (by simp only; omega) (.slice (some ⟨g7, 0, none⟩) 4 cap7)), (hHeld.2.2.2.aside (p := ⟨w.heap.size + 1, 0, none⟩) (by simp only; omega) (.slice (some ⟨g7, 0, none⟩) 4 cap7))⟩) (fun hHeld => ?_)
        clear hK K
        refine wpAnyH_done (by kernel_rfl) ?_ _
        refine NoPanic.normal ?_
        clear hHeld
        have HE7 := hide E7
        have z7 := E7.below.size
        have hl7 : (mxL ts us).length = 4 := by unfold mxL; rw [List.length_zipWith, pastB_l4 HP.out, pastB_l4 HQ.out]; rfl
        have HL7 := hide hl7
        have zw := D3.b6.inside
        clear E E7 D3 hl7
        go_wp2
        refine bodyPost_ret (v := .tuple #[.agg #[.slice a1 ts.length c1], .agg #[.slice (some ⟨g7, 0, none⟩) 4 cap7]]) (by simp [results, Try.results17, go_sem, q2, q3]) rfl ?_
        have hg7' : w6.heap.size ≤ g7 := hg7
        exact ⟨a1, some ⟨g7, 0, none⟩, c1, cap7, ts, mxL ts us, by rw [HL7.out], HE7.out.l1, by rw [HL7.out]; omega, ((HE7.out.t1.aside (p := ⟨w.heap.size, 0, none⟩) (by simp only; omega) _).aside (p := ⟨w.heap.size + 1, 0, none⟩) (by simp only; omega) _).tg, Tg.of ((hB7.aside (p := ⟨w.heap.size, 0, none⟩) (by simp only; omega) _).aside (p := ⟨w.heap.size + 1, 0, none⟩) (by simp only; omega) _) ((hB7.aside (p := ⟨w.heap.size, 0, none⟩) (by simp only; omega) _).aside (p := ⟨w.heap.size + 1, 0, none⟩) (by simp only; omega) _).inside HC7.out, (HE7.out.below.setCell (p := ⟨w.heap.size, 0, none⟩) (Nat.le_refl _) _).setCell (p := ⟨w.heap.size + 1, 0, none⟩) (by simp) _⟩
  · have hxb : (x == 0) = false := by simpa using hx0
    go_wp2_with fail
    clear k5 k6
    have E := D1.on (Below.refl _ _).drew
    have q4 := ((D1.r3.aside (p := ⟨w.heap.size, 0, none⟩) (by simp only; omega) (.slice a1 ts.length c1)).drew).one
    have l5 := E.lo5
    have l6 := E.lo6
    have q2 := E.r2.one
    have q3 := E.r3.one
    refine wp_region_noPanic ?_
    refine wp_region_held_drew (S := (fun w' => (w'.cell? ⟨p5, 0, none⟩ = some (.slice a1 ts.length c1) ∧ w'.cell? ⟨p6, 0, none⟩ = some (.slice a2 us.length c2)) ∧ True ∧ Blk w' p5 25 #[.slice a1 ts.length c1] ∧ Blk w' p6 25 #[.slice a2 us.length c2])) (by kernel_rfl) (by exact ⟨⟨E.b5.at 0, E.b6.at 0⟩, trivial, E.b5, E.b6⟩) (fun hHeld => ?_)
    refine take_run 0 (some 28) (v := ?_) rfl rfl (by kernel_rfl) (by kernel_rfl) (by kernel_rfl) (fun _ _ _ h => h) (by rfl) ?_ hHeld ?_
    rotate_left
    · ((intro w hSw); (try dsimp only at hSw); go_simp <;> with_reducible rfl)
    simp only [Act.put, List.setIfInBounds_toArray, List.set_cons_zero, List.set_cons_succ]
    refine take_run 1 (some 29) (v := ?_) rfl rfl (by kernel_rfl) (by kernel_rfl) (by kernel_rfl) (fun _ _ _ h => h) (by rfl) ?_ hHeld ?_
    rotate_left
    · ((intro w hSw); (try dsimp only at hSw); go_simp <;> with_reducible rfl)
    simp only [Act.put, List.setIfInBounds_toArray, List.set_cons_zero, List.set_cons_succ]
    refine take_one 2 (by kernel_rfl) rfl (fun K hK => ?_)
    go_simp
    refine hK.out _ _ (by exact ⟨⟨(hHeld.2.2.1.aside (p := ⟨w.heap.size, 0, none⟩) (by simp only; omega) (.slice a1 ts.length c1)).at 0, (hHeld.2.2.2.aside (p := ⟨w.heap.size, 0, none⟩) (by simp only; omega) (.slice a1 ts.length c1)).at 0⟩, trivial, (hHeld.2.2.1.aside (p := ⟨w.heap.size, 0, none⟩) (by simp only; omega) (.slice a1 ts.length c1)), (hHeld.2.2.2.aside (p := ⟨w.heap.size, 0, none⟩) (by simp only; omega) (.slice a1 ts.length c1))⟩) (fun hHeld => ?_)
    clear hK K
    refine take_one 3 (by kernel_rfl) rfl (fun K hK => ?_)
    go_simp
    refine hK.out _ _ (by exact ⟨⟨(hHeld.2.2.1.aside (p := ⟨w.heap.size + 1, 0, none⟩) (by simp only; omega) (.slice a2 us.length c2)).at 0, (hHeld.2.2.2.aside (p := ⟨w.heap.size + 1, 0, none⟩) (by simp only; omega) (.slice a2 us.length c2)).at 0⟩, trivial, (hHeld.2.2.1.aside (p := ⟨w.heap.size + 1, 0, none⟩) (by simp only; omega) (.slice a2 us.length c2)), (hHeld.2.2.2.aside (p := ⟨w.heap.size + 1, 0, none⟩) (by simp only; omega) (.slice a2 us.length c2))⟩) (fun hHeld => ?_)
    clear hK K
    refine wpAnyH_done (by kernel_rfl) ?_ _
    refine NoPanic.normal ?_
    clear hHeld
    have HE := hide E
    have F2 := ((D1.r2.put 0 (.slice a1 ts.length c1)).aside (p := ⟨w.heap.size + 1, 0, none⟩) (by simp) (.slice a2 us.length c2)).drew
    have F3 := ((D1.r3.aside (p := ⟨w.heap.size, 0, none⟩) (by simp) (.slice a1 ts.length c1)).put 0 (.slice a2 us.length c2)).drew
    simp only [List.setIfInBounds_toArray, List.set_cons_zero] at F2 F3
    have q6 := F2.one.1
    have q7 := F3.one.1
    clear E D1
    go_wp2
    refine bodyPost_ret (v := .tuple #[.agg #[.slice a1 ts.length c1], .agg #[.slice a2 us.length c2]]) (by simp [results, Try.results17, go_sem, q6, q7]) rfl ?_
    exact FIN.out _ HE.out
end Go.Proofs.Ytkkjhfgjjakmfaa
