/- New places: their values, how they are compared, marked, and the marks found again. Condition: what is said of each. -/
import Derived.Test.YtpkoidbenojkmaaChainRes
namespace Go.Proofs.Ytpkoidbenojkmaa
open Go.RowKit Go.Joins
attribute [local go_sem ↓] Go.wp_at_zero Go.wp_at_succ

/-- The cells of a new place. -/
abbrev plC (me : Int) (A : Option Addr) (n c : Nat) (ga : Option Addr) (gn : Nat) : Array Value := #[.int .i64 me, .int .i64 0, .slice A n c, .slice none 0 0, .slice ga gn gn, .bool false]
abbrev nil3 : Array Value := #[.slice none 0 0, .slice none 0 0, .slice none 0 0]
/-- What a new place has heard: nothing, of each place, or of none. -/
def Got0 (w : World) (ga : Option Addr) (gn : Nat) : Prop := gn = 0 ∨ (gn = 3 ∧ ∃ g, ga = some ⟨g, 0, none⟩ ∧ Blk w g 25 nil3)
theorem Got0.on {w w' : World} {ga : Option Addr} {gn : Nat} (h : Got0 w ga gn) (hb : Below w.heap.size w w') : Got0 w' ga gn := by
  rcases h with h | ⟨h, g, h1, h2⟩
  · exact .inl h
  · exact .inr ⟨h, g, h1, h2.on hb⟩
theorem nil3_at {w : World} {g : Nat} (h : Blk w g 25 nil3) (k : Nat) (hk : k < 3) : w.cell? ⟨g, k, none⟩ = some (.slice none 0 0) := by
  rw [h.at]
  match k with
  | 0 => rfl
  | 1 => rfl
  | 2 => rfl
  | n + 3 => omega
/-- A place that a call has made: its chain in blocks from B on and below U, what it heard in a block beside these, all from L on and below M. -/
def ResP (w : World) (L M : Nat) (A : Option Addr) (ns : List Nd) (ga : Option Addr) (gn : Nat) : Prop :=
  ∃ B U, L ≤ B ∧ U ≤ M ∧ ResN w B U A ns ∧ (gn = 0 ∨ (gn = 3 ∧ ∃ g, ga = some ⟨g, 0, none⟩ ∧ Blk w g 25 nil3 ∧ L ≤ g ∧ g < M ∧ (g < B ∨ U ≤ g)))
theorem ResP.got {w : World} {L M : Nat} {A : Option Addr} {ns : List Nd} {ga : Option Addr} {gn : Nat} (h : ResP w L M A ns ga gn) : Got0 w ga gn := by
  obtain ⟨B, U, _, _, _, h | ⟨h, g, h1, h2, _⟩⟩ := h
  · exact .inl h
  · exact .inr ⟨h, g, h1, h2⟩
theorem ResP.turn {P : Nat → Prop} {w w' : World} {L M : Nat} {A : Option Addr} {ns : List Nd} {ga : Option Addr} {gn : Nat} (h : ResP w L M A ns ga gn) (ht : Turn P w w') (hp : ∀ g, L ≤ g → g < M → ¬ P g) : ResP w' L M A ns ga gn := by
  obtain ⟨B, U, h1, h2, h3, h4⟩ := h
  refine ⟨B, U, h1, h2, h3.turn ht (fun g a b => hp g (by omega) (by omega)), ?_⟩
  rcases h4 with h | ⟨h, g, a, b, c, d, e⟩
  · exact .inl h
  · exact .inr ⟨h, g, a, b.turned ht (hp g c d), c, d, e⟩
theorem ResP.on {w w' : World} {L M : Nat} {A : Option Addr} {ns : List Nd} {ga : Option Addr} {gn : Nat} (h : ResP w L M A ns ga gn) (hb : Below w.heap.size w w') : ResP w' L M A ns ga gn := h.turn (P := fun _ => False) (.below hb) (fun _ _ _ h => h)
theorem ResP.alloc {w : World} {L M : Nat} {A : Option Addr} {ns : List Nd} {ga : Option Addr} {gn : Nat} (h : ResP w L M A ns ga gn) (o : Obj) : ResP (w.alloc o) L M A ns ga gn := h.on (below_alloc1 w o)
theorem ResP.wide {w : World} {L M L' M' : Nat} {A : Option Addr} {ns : List Nd} {ga : Option Addr} {gn : Nat} (h : ResP w L M A ns ga gn) (hL : L' ≤ L) (hM : M ≤ M') : ResP w L' M' A ns ga gn := by
  obtain ⟨B, U, h1, h2, h3, h4⟩ := h
  refine ⟨B, U, by omega, by omega, h3, ?_⟩
  rcases h4 with h | ⟨h, g, a, b, c, d, e⟩
  · exact .inl h
  · exact .inr ⟨h, g, a, b, by omega, by omega, e⟩

set_option maxRecDepth 100000 in
set_option maxHeartbeats 4000000 in
theorem eqVerSS_got (a a' : Option Addr) (n : Nat) (w : World) (h : Got0 w a n) (h' : Got0 w a' n) :
    Calls Try.prog 20 #[.slice a n n, .slice a' n n] w fun e w' => e = .returned (.bool true) ∧ Below w.heap.size w w' := by
  have H := hide h
  have H' := hide h'
  have hn3 : n ≤ 3 := by rcases h with h | ⟨h, _⟩ <;> omega
  clear h h'
  go_enter Try.func20, Try.ntmps20
  go_wp2
  go_loopw [5] (fun i wr => ∃ k : Nat, k ≤ n ∧ i = .int .i64 (k : Int) ∧ Hid (Below w.heap.size w wr)) (fun i _ => n - (intOf i).toNat)
  case atStart => exact ⟨0, Nat.zero_le _, rfl, Below.refl _ _⟩
  case round =>
    obtain ⟨k, hk, rfl, hL⟩ := hrel
    by_cases hlt : k < n
    · rcases H.out with h0 | ⟨h3, g, rfl, hB⟩
      · omega
      · rcases H'.out with h0 | ⟨h3', g', rfl, hB'⟩
        · omega
        · clear H H'
          have hk3 : k < 3 := by omega
          clear h3 h3'
          have B1 := hide hB
          have B2 := hide hB'
          have i1 : (0 : Int) ≤ (k : Int) := by omega
          have i2 : (k : Int) < (n : Int) := by omega
          have jh : ∀ w', Below w.heap.size w w' → w'.cell? ⟨g, k, none⟩ = some (.slice none 0 0) ∧ w'.cell? ⟨g', k, none⟩ = some (.slice none 0 0) ∧ Below w.heap.size w w' := fun w' hb => ⟨nil3_at (B1.out.on hb) k hk3, nil3_at (B2.out.on hb) k hk3, hb⟩
          clear hB hB'
          go_wp2_with fail
          refine wp_region_noPanic ?_
          refine wp_region_held_drew (S := (fun w' => w'.cell? ⟨g, k, none⟩ = some (.slice none 0 0) ∧ w'.cell? ⟨g', k, none⟩ = some (.slice none 0 0) ∧ Below w.heap.size w w')) (by kernel_rfl) (by exact jh _ hL.out.drew) (fun hHeld => ?_)
          refine take_run 0 (some 17) (v := ?_) rfl rfl (by kernel_rfl) (by kernel_rfl) (by kernel_rfl) (fun _ _ _ h => h) (by rfl) ?_ hHeld ?_
          rotate_left
          · ((intro w hSw); (try dsimp only at hSw); go_simp <;> with_reducible rfl)
          simp only [Act.put, List.setIfInBounds_toArray, List.set_cons_zero, List.set_cons_succ]
          refine take_run 1 (some 18) (v := ?_) rfl rfl (by kernel_rfl) (by kernel_rfl) (by kernel_rfl) (fun _ _ _ h => h) (by rfl) ?_ hHeld ?_
          rotate_left
          · ((intro w hSw); (try dsimp only at hSw); go_simp <;> with_reducible rfl)
          simp only [Act.put, List.setIfInBounds_toArray, List.set_cons_zero, List.set_cons_succ]
          refine take_run 2 (some 19) (v := ?_) rfl rfl (by kernel_rfl) (by kernel_rfl) (by kernel_rfl) (fun _ _ _ h => h) (by rfl) ?_ hHeld ?_
          rotate_left
          · ((intro w hSw); (try dsimp only at hSw); go_simp <;> with_reducible rfl)
          simp only [Act.put, List.setIfInBounds_toArray, List.set_cons_zero, List.set_cons_succ]
          refine take_run 3 (some 20) (v := ?_) rfl rfl (by kernel_rfl) (by kernel_rfl) (by kernel_rfl) (fun _ _ _ h => h) (by rfl) ?_ hHeld ?_
          rotate_left
          · ((intro w hSw); (try dsimp only at hSw); go_simp <;> with_reducible rfl)
          simp only [Act.put, List.setIfInBounds_toArray, List.set_cons_zero, List.set_cons_succ]
          refine take_run 4 (some 21) (v := ?_) rfl rfl (by kernel_rfl) (by kernel_rfl) (by kernel_rfl) (fun _ _ _ h => h) (by rfl) ?_ hHeld ?_
          rotate_left
          · ((intro w hSw); (try dsimp only at hSw); go_simp <;> with_reducible rfl)
          simp only [Act.put, List.setIfInBounds_toArray, List.set_cons_zero, List.set_cons_succ]
          refine take_run 5 (some 22) (v := ?_) rfl rfl (by kernel_rfl) (by kernel_rfl) (by kernel_rfl) (fun _ _ _ h => h) (by rfl) ?_ hHeld ?_
          rotate_left
          · ((intro w hSw); (try dsimp only at hSw); go_simp <;> with_reducible rfl)
          simp only [Act.put, List.setIfInBounds_toArray, List.set_cons_zero, List.set_cons_succ]
          refine take_run 6 (some 23) (v := ?_) rfl rfl (by kernel_rfl) (by kernel_rfl) (by kernel_rfl) (fun _ _ _ h => h) (by rfl) ?_ hHeld ?_
          rotate_left
          · ((intro w hSw); (try dsimp only at hSw); go_simp <;> with_reducible rfl)
          simp only [Act.put, List.setIfInBounds_toArray, List.set_cons_zero, List.set_cons_succ]
          refine take_run 7 (some 24) (v := ?_) rfl rfl (by kernel_rfl) (by kernel_rfl) (by kernel_rfl) (fun _ _ _ h => h) (by rfl) ?_ hHeld ?_
          rotate_left
          · ((intro w hSw); (try dsimp only at hSw); go_simp <;> with_reducible rfl)
          simp only [Act.put, List.setIfInBounds_toArray, List.set_cons_zero, List.set_cons_succ]
          refine take_one 8 (by kernel_rfl) rfl (fun K hK => ?_)
          go_simp
          (refine (eqVerS_same none none 0 0 0 [] [] _ (by omega) rfl rfl (fun i v v' h => by simp at h) (fun v h => by simp at h) (.inl rfl) (.inl rfl)).mono ?_; rintro e w1 ⟨rfl, hb1⟩)
          try go_wp2_with fail
          refine hK.out _ _ (by exact jh _ (hHeld.2.2.trans (hb1.mono hHeld.2.2.size))) (fun hHeld => ?_)
          clear hK K
          refine take_run 9 (some 26) (v := ?_) rfl rfl (by kernel_rfl) (by kernel_rfl) (by kernel_rfl) (fun _ _ _ h => h) (by rfl) ?_ hHeld ?_
          rotate_left
          · ((intro w hSw); (try dsimp only at hSw); go_simp <;> with_reducible rfl)
          simp only [Act.put, List.setIfInBounds_toArray, List.set_cons_zero, List.set_cons_succ]
          refine wpAnyH_done (by kernel_rfl) ?_ _
          refine NoPanic.normal ?_
          have hL2 := hide hHeld.2.2
          clear hHeld hL
          go_wp2
          exact ⟨⟨k + 1, by omega, by go_num, hL2⟩, by simp [intOf]; omega⟩
    · have hkn : k = n := by omega
      subst hkn
      clear hlt
      go_wp2
      go_ret
      exact ⟨rfl, hL.out⟩
set_option maxRecDepth 100000 in
set_option maxHeartbeats 4000000 in
theorem markVerSS_got (a : Option Addr) (n : Nat) (k0 : Int) (w : World) (h : Got0 w a n) :
    Calls Try.prog 23 #[.slice a n n, .int .i64 k0] w fun e w' => e = .returned (.int .i64 k0) ∧ w = w' := by
  have H := hide h
  have hn3 : n ≤ 3 := by rcases h with h | ⟨h, _⟩ <;> omega
  clear h
  go_enter Try.func23, Try.ntmps23
  go_wp2
  go_loopw [1, 5] (fun v i wr => ∃ k : Nat, k ≤ n ∧ i = .int .i64 (k : Int) ∧ v = .int .i64 k0 ∧ wr = w) (fun _ i _ => n - (intOf i).toNat)
  case atStart => exact ⟨0, Nat.zero_le _, rfl, rfl, rfl⟩
  case round =>
    obtain ⟨k, hk, rfl, rfl, rfl⟩ := hrel
    by_cases hlt : k < n
    · rcases H.out with h0 | ⟨h3, g, rfl, hB⟩
      · omega
      · clear H
        have hk3 : k < 3 := by omega
        clear h3
        have d0 := nil3_at hB k hk3
        have i1 : (0 : Int) ≤ (k : Int) := by omega
        have i2 : (k : Int) < (n : Int) := by omega
        clear hB
        go_wp2_with fail
        refine (markVerS_nil none 0 k0 _).mono ?_
        rintro e w1 ⟨rfl, rfl⟩
        go_wp2
        exact ⟨⟨k + 1, by omega, by go_num, rfl, by first | rfl | trivial⟩, by simp [intOf]; omega⟩
    · have hkn : k = n := by omega
      subst hkn
      clear hlt
      go_wp2
      go_ret
      exact ⟨rfl, rfl⟩
set_option maxRecDepth 100000 in
set_option maxHeartbeats 4000000 in
theorem heldVerSS_got (a : Option Addr) (n : Nat) (k0 : Int) (w : World) (h : Got0 w a n) (hk0 : 0 ≤ k0) :
    Calls Try.prog 26 #[.slice a n n, .int .i64 k0] w fun e w' => e = .returned (.int .i64 k0) ∧ w = w' := by
  have H := hide h
  have hn3 : n ≤ 3 := by rcases h with h | ⟨h, _⟩ <;> omega
  have hng : ¬ k0 < 0 := by omega
  clear h
  go_enter Try.func26, Try.ntmps26
  go_wp2
  go_loopw [1, 5] (fun v i wr => ∃ k : Nat, k ≤ n ∧ i = .int .i64 (k : Int) ∧ v = .int .i64 k0 ∧ wr = w) (fun _ i _ => n - (intOf i).toNat)
  case atStart => exact ⟨0, Nat.zero_le _, rfl, rfl, rfl⟩
  case round =>
    obtain ⟨k, hk, rfl, rfl, rfl⟩ := hrel
    by_cases hlt : k < n
    · rcases H.out with h0 | ⟨h3, g, rfl, hB⟩
      · omega
      · clear H
        have hk3 : k < 3 := by omega
        clear h3
        have d0 := nil3_at hB k hk3
        have i1 : (0 : Int) ≤ (k : Int) := by omega
        have i2 : (k : Int) < (n : Int) := by omega
        clear hB
        go_wp2_with fail
        refine (heldVerS_nil none 0 k0 _).mono ?_
        rintro e w1 ⟨rfl, rfl⟩
        go_wp2
        exact ⟨⟨k + 1, by omega, by go_num, rfl, by first | rfl | trivial⟩, by simp [intOf]; omega⟩
    · have hkn : k = n := by omega
      subst hkn
      clear hlt
      go_wp2
      go_ret
      exact ⟨rfl, rfl⟩

set_option maxRecDepth 100000 in
set_option maxHeartbeats 4000000 in
theorem eqPlace_same (L M L' M' : Nat) (me : Int) (A A' : Option Addr) (c c' n : Nat) (ns us : List Nd) (ga ga' : Option Addr) (gn : Nat) (w : World) (hn : n ≤ 1048576) (hvn : ns.length = n) (hun : us.length = n)
    (hlike : ∀ (i : Nat) v v', ns[i]? = some v → us[i]? = some v' → Nd.like v v') (hm : SmallN ns) (hv : ResP w L M A ns ga gn) (hu : ResP w L' M' A' us ga' gn) :
    Calls Try.prog 7 #[.agg (plC me A n c ga gn), .agg (plC me A' n c' ga' gn)] w fun e w' => e = .returned (.bool true) ∧ Below w.heap.size w w' := by
  have S0 := ((Inv.start w).box 28 (plC me A n c ga gn)).box 28 (plC me A' n c' ga' gn)
  simp only [World.size_alloc] at S0
  have HG := hide hv.got
  have HG' := hide hu.got
  have HC : Hid (∀ W, Below w.heap.size w W → Calls Try.prog 18 #[.agg #[.slice A n c], .agg #[.slice A' n c']] W fun e w' => e = .returned (.bool true) ∧ Below W.heap.size W w') := fun W hW => by
    obtain ⟨B, U, _, _, h1, _⟩ := hv
    obtain ⟨B', U', _, _, h2, _⟩ := hu
    exact eqChain_same B U B' U' A A' c c' n ns us W hn hvn hun hlike hm (h1.on hW) (h2.on hW)
  clear hlike hm hv hu hvn hun
  go_enter Try.func7, Try.ntmps7
  go_wp2_with fail
  refine (HC.out _ S0.below).mono ?_
  rintro e w1 ⟨rfl, hb1⟩
  have S1 := S0.on hb1
  have q0 := (S1.nth 0 rfl).six.1
  have q1 := (S1.nth 1 rfl).six.1
  clear S0 hb1
  go_wp2_with fail
  refine (eqVerS_same none none 0 0 0 [] [] _ (by omega) rfl rfl (fun i v v' h => by simp at h) (fun v h => by simp at h) (.inl rfl) (.inl rfl)).mono ?_
  rintro e w2 ⟨rfl, hb2⟩
  have S2 := S1.on hb2
  have q2 := (S2.nth 0 rfl).six.1
  have q3 := (S2.nth 1 rfl).six.1
  clear S1 q0 q1 hb2
  go_wp2_with fail
  refine (eqVerSS_got ga ga' gn w2 (HG.out.on S2.below) (HG'.out.on S2.below)).mono ?_
  rintro e w3 ⟨rfl, hb3⟩
  have S3 := S2.on hb3
  have q4 := (S3.nth 0 rfl).six.1
  have q5 := (S3.nth 1 rfl).six.1
  clear S2 q2 q3 hb3
  go_wp2
  go_ret
  exact ⟨rfl, S3.below⟩
set_option maxRecDepth 100000 in
set_option maxHeartbeats 4000000 in
theorem markPlace_any (L M : Nat) (me : Int) (A : Option Addr) (c n : Nat) (ns : List Nd) (ga : Option Addr) (gn : Nat) (k : Int) (w : World) (hR : ResP w L M A ns ga gn) (hM : M ≤ w.heap.size) (hl : ns.length = n) (hm : SmallN ns) (hn : n ≤ 1048576) (hk0 : 1 ≤ k) (hk : k + wtNs ns ≤ 8388000) :
    Calls Try.prog 8 #[.agg (plC me A n c ga gn), .int .i64 k] w fun e w' => e = .returned (.int .i64 (k + wtNs ns)) ∧ ResP w' L M A (mkNs k ns) ga gn ∧ Turn (fun g => L ≤ g ∧ g < M) w w' := by
  have S0 := (Inv.start w).box 28 (plC me A n c ga gn)
  simp only [World.size_alloc] at S0
  have HC : Hid (∀ W, Below w.heap.size w W → Calls Try.prog 21 #[.agg #[.slice A n c], .int .i64 k] W fun e w' => e = .returned (.int .i64 (k + wtNs ns)) ∧ ResP w' L M A (mkNs k ns) ga gn ∧ Turn (fun g => L ≤ g ∧ g < M) W w') := fun W hW => by
    obtain ⟨B, U, h1, h2, h3, h4⟩ := hR.on hW
    refine (markChain_any B U A c n ns k W h3 hl hm hn hk0 hk).mono ?_
    rintro e w' ⟨rfl, q1, q2⟩
    refine ⟨rfl, ⟨B, U, h1, h2, q1, ?_⟩, ⟨q2.os, q2.tape, q2.output, q2.size, fun i hi hn => q2.block i hi (fun e => hn ⟨by omega, by omega⟩)⟩⟩
    rcases h4 with h | ⟨h, g, a, b, c', d, e⟩
    · exact .inl h
    · exact .inr ⟨h, g, a, b.turned q2 (by omega), c', d, e⟩
  have hp := wtNs_pos ns
  clear hR hl hm
  go_enter Try.func8, Try.ntmps8
  go_wp2_with fail
  refine (HC.out _ S0.below).mono ?_
  rintro e w1 ⟨rfl, hR1, hT1⟩
  have HR1 := hide hR1
  have q1 := ((S0.nth 0 rfl).turned hT1 (by omega)).six.1
  have HT := hide (Turn.trans (.below S0.below) hT1)
  clear hR1 hT1 HC S0
  go_wp2_with fail
  refine (markVerS_nil none 0 _ _).mono ?_
  rintro e w2 ⟨rfl, rfl⟩
  go_wp2_with fail
  refine (markVerSS_got ga gn _ _ HR1.out.got).mono ?_
  rintro e w2 ⟨rfl, rfl⟩
  go_wp2
  go_ret
  exact ⟨rfl, HR1.out, HT.out⟩
set_option maxRecDepth 100000 in
set_option maxHeartbeats 4000000 in
theorem heldPlace_any (L M : Nat) (me : Int) (A : Option Addr) (c n : Nat) (ns : List Nd) (ga : Option Addr) (gn : Nat) (k : Int) (w : World) (hR : ResP w L M A (mkNs k ns) ga gn) (hl : ns.length = n) (hm : SmallN ns) (hn : n ≤ 1048576) (hk0 : 1 ≤ k) (hk : k + wtNs ns ≤ 8388000) :
    Calls Try.prog 9 #[.agg (plC me A n c ga gn), .int .i64 k] w fun e w' => e = .returned (.int .i64 (k + wtNs ns)) ∧ Below w.heap.size w w' := by
  have S0 := (Inv.start w).box 28 (plC me A n c ga gn)
  simp only [World.size_alloc] at S0
  have HG := hide hR.got
  have HC : Hid (∀ W, Below w.heap.size w W → Calls Try.prog 24 #[.agg #[.slice A n c], .int .i64 k] W fun e w' => e = .returned (.int .i64 (k + wtNs ns)) ∧ Below W.heap.size W w') := fun W hW => by
    obtain ⟨B, U, h1, h2, h3, h4⟩ := hR.on hW
    exact heldChain_any B U A c n ns k W h3 hl hm hn hk0 hk
  have hp := wtNs_pos ns
  have hng : ¬ (k + wtNs ns < 0) := by omega
  clear hR hl hm
  go_enter Try.func9, Try.ntmps9
  go_wp2_with fail
  refine (HC.out _ S0.below).mono ?_
  rintro e w1 ⟨rfl, hb1⟩
  have S1 := S0.on hb1
  have q1 := (S1.nth 0 rfl).six.1
  clear S0 hb1 HC
  go_wp2_with fail
  refine (heldVerS_nil none 0 _ _).mono ?_
  rintro e w2 ⟨rfl, rfl⟩
  go_wp2_with fail
  refine (heldVerSS_got ga gn _ _ (HG.out.on S1.below) (by omega)).mono ?_
  rintro e w2 ⟨rfl, rfl⟩
  go_wp2
  go_ret
  exact ⟨rfl, S1.below⟩
end Go.Proofs.Ytpkoidbenojkmaa
