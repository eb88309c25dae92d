/- How rows of nodes and chains are marked, and the marks found again. Condition: what is said of each. -/
import Derived.Test.YtbbaogpgapemhaaGreatJNodes
import Derived.Test.YtbbaogpgapemhaaGreatJVerOk0
import Derived.Test.YtbbaogpgapemhaaGreatJPastRes
namespace Go.Proofs.YtbbaogpgapemhaaGreat
open Go.RowKit Go.Joins
attribute [local go_sem ↓] Go.wp_at_zero Go.wp_at_succ

theorem NRow.notG {w : World} {B U G : Nat} {ns : List Nd} {cur : Array Value} (h : NRow w B U G ns cur) {i : Nat} {n : Nd} (hi : ns[i]? = some n) : ¬ FootN n G := by
  intro hf
  rcases hf with hf | hf
  · obtain ⟨T, cs, hb, hT, _⟩ := (h.store i n hi).typed hf
    exact hT (blk_one hb h.blk)
  · obtain ⟨T, cs, hb, hT, _⟩ := (h.wait i n hi).typed hf
    exact hT (blk_one hb h.blk)
theorem NRow.turned {P : Nat → Prop} {w w' : World} {B U G : Nat} {ns : List Nd} {cur : Array Value} (h : NRow w B U G ns cur) (ht : Turn P w w') (hg : ¬ P G) (hp : ∀ (i : Nat) n, ns[i]? = some n → ∀ g, FootN n g → ¬ P g) : NRow w' B U G ns cur :=
  ⟨h.blk.turned ht hg, h.lo, h.hi, h.size, h.at', fun i n hi => (h.store i n hi).turnF ht (fun g hf => hp i n hi g (.inl hf)), fun i n hi => (h.wait i n hi).turnF ht (fun g hf => hp i n hi g (.inr hf)), h.two, h.apart⟩
theorem NRow.on {w w' : World} {B U G : Nat} {ns : List Nd} {cur : Array Value} (h : NRow w B U G ns cur) (hb : Below w.heap.size w w') : NRow w' B U G ns cur := h.turned (P := fun _ => False) (.below hb) (fun h => h) (fun _ _ _ _ _ h => h)
/-- The blocks of a row of nodes. -/
def FootNs (ns : List Nd) (g : Nat) : Prop := ∃ (i : Nat) (n : Nd), ns[i]? = some n ∧ FootN n g
/-- Nodes of few versions. -/
def SmallN (ns : List Nd) : Prop := ∀ n ∈ ns, n.ss.length ≤ 1048576 ∧ n.ws.length ≤ 1048576 ∧ (∀ v ∈ n.ss, v.ts.length ≤ 1048576) ∧ ∀ v ∈ n.ws, v.ts.length ≤ 1048576
def MarkedNF (w : World) (B U G : Nat) (ns : List Nd) (k : Int) (e : Ending) (w' : World) : Prop :=
  e = .returned (.int .i64 (k + wtNs ns)) ∧ (∃ cur, NRow w' B U G (mkNs k ns) cur) ∧ Turn (FootNs ns) w w'

end Go.Proofs.YtbbaogpgapemhaaGreat
/- Whether two nodes, two rows of nodes, two chains are the same; marks on chains. Condition: what is said of each. -/
namespace Go.Proofs.YtbbaogpgapemhaaGreat
open Go.RowKit Go.Joins
attribute [local go_sem ↓] Go.wp_at_zero Go.wp_at_succ

set_option maxHeartbeats 2000000 in
theorem eqNode_same (a a' b b' : Option Addr) (c c' d d' p q : Nat) (vs us vs' us' : List V) (w : World) (hp : p ≤ 1048576) (hq : q ≤ 1048576) (h1 : vs.length = p) (h2 : us.length = p) (h3 : vs'.length = q) (h4 : us'.length = q)
    (hl : Like vs us) (hl' : Like vs' us') (hm : ∀ v ∈ vs, v.ts.length ≤ 1048576) (hm' : ∀ v ∈ vs', v.ts.length ≤ 1048576) (hv : Vg w w.heap.size a vs) (hu : Vg w w.heap.size a' us) (hv' : Vg w w.heap.size b vs') (hu' : Vg w w.heap.size b' us') :
    Calls Tryz.prog 180 #[.agg #[.slice a p c, .slice b q d], .agg #[.slice a' p c', .slice b' q d']] w fun e w' => e = .returned (.bool true) ∧ Below w.heap.size w w' := by
  have HM := hide hm
  have HM' := hide hm'
  have HL := hide hl
  have HL' := hide hl'
  have E1 := hide h1
  have E2 := hide h2
  have E3 := hide h3
  have E4 := hide h4
  have HV := hide hv
  have HU := hide hu
  have HV' := hide hv'
  have HU' := hide hu'
  clear hm hm' hl hl' h1 h2 h3 h4 hv hu hv' hu'
  have S0 := ((Inv.start w).box 132 #[.slice a p c, .slice b q d]).box 132 #[.slice a' p c', .slice b' q d']
  simp only [World.size_alloc] at S0
  go_enter Tryz.func180, Tryz.ntmps180
  go_wp2_with fail
  refine (eqStore_same a a' c c' p vs us _ hp E1.out E2.out HL.out HM.out ((HV.out.on S0.below).up S0.base) ((HU.out.on S0.below).up S0.base)).mono ?_
  rintro e w1 ⟨rfl, hb1⟩
  have S1 := S0.on hb1
  have q0 := (S1.nth 0 rfl).two
  have q1 := (S1.nth 1 rfl).two
  clear S0
  go_wp2_with fail
  refine (eqVerS_same b b' d d' q vs' us' _ hq E3.out E4.out HL'.out HM'.out ((HV'.out.on S1.below).up S1.base) ((HU'.out.on S1.below).up S1.base)).mono ?_
  rintro e w2 ⟨rfl, hb2⟩
  have S2 := S1.on hb2
  clear S1 q0 q1
  go_wp2
  go_ret
  exact ⟨rfl, S2.below⟩
set_option maxRecDepth 100000 in
set_option maxHeartbeats 4000000 in
theorem eqNodeS_same (B U G c B' U' G' c' n : Nat) (ns us : List Nd) (cur cur' : Array Value) (w : World) (hn : n ≤ 1048576) (hvn : ns.length = n) (hun : us.length = n)
    (hlike : ∀ (i : Nat) v v', ns[i]? = some v → us[i]? = some v' → Nd.like v v') (hm : SmallN ns) (hv : NRow w B U G ns cur) (hu : NRow w B' U' G' us cur') :
    Calls Tryz.prog 130 #[.slice (some ⟨G, 0, none⟩) n c, .slice (some ⟨G', 0, none⟩) n c'] w fun e w' => e = .returned (.bool true) ∧ Below w.heap.size w w' := by
  have HN := hide hvn
  have HU := hide hun
  have HK := hide hlike
  have HM := hide hm
  have HV := hide hv
  have HW := hide hu
  clear hvn hun hlike hm hv hu
  go_enter Tryz.func130, Tryz.ntmps130
  go_wp2
  go_loopw [5] (fun i wr => ∃ k : Nat, k ≤ n ∧ i = .int .i64 (k : Int) ∧ Hid (Below w.heap.size w wr)) (fun i _ => n - (intOf i).toNat)
  case atStart => exact ⟨0, Nat.zero_le _, rfl, Below.refl _ _⟩
  case round =>
    obtain ⟨k, hk, rfl, hL⟩ := hrel
    by_cases hlt : k < n
    · obtain ⟨v, hv⟩ : ∃ v, ns[k]? = some v := ⟨_, List.getElem?_eq_getElem (by have := HN.out; omega)⟩
      obtain ⟨u, hu⟩ : ∃ u, us[k]? = some u := ⟨_, List.getElem?_eq_getElem (by have := HU.out; omega)⟩
      have HB := hide (HM.out v (List.mem_of_getElem? hv))
      obtain ⟨e1, e2, e3, e4⟩ := HK.out k v u hv hu
      have E1 := hide e1
      have E2 := hide e2
      have E3 := hide e3
      have E4 := hide e4
      have A1 := HV.out.at' k v hv
      have A2 := HW.out.at' k u hu
      rw [NdAt, ← e1, ← e3] at A2
      have Q1 := hide A1
      have Q2 := hide A2
      have R1 := hide (HV.out.store k v hv)
      have R2 := hide (HV.out.wait k v hv)
      have R3 := hide (HW.out.store k u hu)
      have R4 := hide (HW.out.wait k u hu)
      clear A1 A2 hv hu e1 e2 e3 e4
      have i1 : (0 : Int) ≤ (k : Int) := by omega
      have i2 : (k : Int) < (n : Int) := by omega
      have jh : ∀ w', Below w.heap.size w w' → w'.cell? ⟨G, k * 2, none⟩ = some (.slice v.sa v.ss.length v.sc) ∧ w'.cell? ⟨G, k * 2 + 1, none⟩ = some (.slice v.wa v.ws.length v.wc) ∧ w'.cell? ⟨G', k * 2, none⟩ = some (.slice u.sa v.ss.length u.sc) ∧ w'.cell? ⟨G', k * 2 + 1, none⟩ = some (.slice u.wa v.ws.length u.wc) ∧ Below w.heap.size w w' := fun w' hb =>
        ⟨((HV.out.blk.on hb).at _).trans Q1.out.1, ((HV.out.blk.on hb).at _).trans Q1.out.2, ((HW.out.blk.on hb).at _).trans Q2.out.1, ((HW.out.blk.on hb).at _).trans Q2.out.2, hb⟩
      go_wp2_with fail
      refine wp_region_noPanic ?_
      refine wp_region_held_drew (S := (fun w' => w'.cell? ⟨G, k * 2, none⟩ = some (.slice v.sa v.ss.length v.sc) ∧ w'.cell? ⟨G, k * 2 + 1, none⟩ = some (.slice v.wa v.ws.length v.wc) ∧ w'.cell? ⟨G', k * 2, none⟩ = some (.slice u.sa v.ss.length u.sc) ∧ w'.cell? ⟨G', k * 2 + 1, none⟩ = some (.slice u.wa v.ws.length u.wc) ∧ Below w.heap.size w w')) (by kernel_rfl) (by exact jh _ hL.out.drew) (fun hHeld => ?_)
      refine take_run 0 (some 17) (v := ?_) rfl rfl (by kernel_rfl) (by kernel_rfl) (by kernel_rfl) (fun _ _ _ h => h) (by rfl) ?_ hHeld ?_
      rotate_left
      · ((intro w hSw); (try dsimp only at hSw); go_simp <;> with_reducible rfl)
      simp only [Act.put, List.setIfInBounds_toArray, List.set_cons_zero, List.set_cons_succ]
      refine take_run 1 (some 18) (v := ?_) rfl rfl (by kernel_rfl) (by kernel_rfl) (by kernel_rfl) (fun _ _ _ h => h) (by rfl) ?_ hHeld ?_
      rotate_left
      · ((intro w hSw); (try dsimp only at hSw); go_simp <;> with_reducible rfl)
      simp only [Act.put, List.setIfInBounds_toArray, List.set_cons_zero, List.set_cons_succ]
      refine take_run 2 (some 19) (v := ?_) rfl rfl (by kernel_rfl) (by kernel_rfl) (by kernel_rfl) (fun _ _ _ h => h) (by rfl) ?_ hHeld ?_
      rotate_left
      · ((intro w hSw); (try dsimp only at hSw); go_simp <;> with_reducible rfl)
      simp only [Act.put, List.setIfInBounds_toArray, List.set_cons_zero, List.set_cons_succ]
      refine take_run 3 (some 20) (v := ?_) rfl rfl (by kernel_rfl) (by kernel_rfl) (by kernel_rfl) (fun _ _ _ h => h) (by rfl) ?_ hHeld ?_
      rotate_left
      · ((intro w hSw); (try dsimp only at hSw); go_simp <;> with_reducible rfl)
      simp only [Act.put, List.setIfInBounds_toArray, List.set_cons_zero, List.set_cons_succ]
      refine take_run 4 (some 21) (v := ?_) rfl rfl (by kernel_rfl) (by kernel_rfl) (by kernel_rfl) (fun _ _ _ h => h) (by rfl) ?_ hHeld ?_
      rotate_left
      · ((intro w hSw); (try dsimp only at hSw); go_simp <;> with_reducible rfl)
      simp only [Act.put, List.setIfInBounds_toArray, List.set_cons_zero, List.set_cons_succ]
      refine take_run 5 (some 22) (v := ?_) rfl rfl (by kernel_rfl) (by kernel_rfl) (by kernel_rfl) (fun _ _ _ h => h) (by rfl) ?_ hHeld ?_
      rotate_left
      · ((intro w hSw); (try dsimp only at hSw); go_simp <;> with_reducible rfl)
      simp only [Act.put, List.setIfInBounds_toArray, List.set_cons_zero, List.set_cons_succ]
      refine take_run 6 (some 23) (v := ?_) rfl rfl (by kernel_rfl) (by kernel_rfl) (by kernel_rfl) (fun _ _ _ h => h) (by rfl) ?_ hHeld ?_
      rotate_left
      · ((intro w hSw); (try dsimp only at hSw); go_simp <;> with_reducible rfl)
      simp only [Act.put, List.setIfInBounds_toArray, List.set_cons_zero, List.set_cons_succ]
      refine take_run 7 (some 24) (v := ?_) rfl rfl (by kernel_rfl) (by kernel_rfl) (by kernel_rfl) (fun _ _ _ h => h) (by rfl) ?_ hHeld ?_
      rotate_left
      · ((intro w hSw); (try dsimp only at hSw); go_simp <;> with_reducible rfl)
      simp only [Act.put, List.setIfInBounds_toArray, List.set_cons_zero, List.set_cons_succ]
      refine take_one 8 (by kernel_rfl) rfl (fun K hK => ?_)
      go_simp
      (refine (eqNode_same v.sa u.sa v.wa u.wa v.sc u.sc v.wc u.wc v.ss.length v.ws.length v.ss u.ss v.ws u.ws _ HB.out.1 HB.out.2.1 rfl E1.out.symm rfl E3.out.symm E2.out E4.out HB.out.2.2.1 HB.out.2.2.2 (R1.out.on hHeld.2.2.2.2).vg (R3.out.on hHeld.2.2.2.2).vg (R2.out.on hHeld.2.2.2.2).vg (R4.out.on hHeld.2.2.2.2).vg).mono ?_; rintro e w1 ⟨rfl, hb1⟩)
      try go_wp2_with fail
      refine hK.out _ _ (by exact jh _ (hHeld.2.2.2.2.trans (hb1.mono hHeld.2.2.2.2.size))) (fun hHeld => ?_)
      clear hK K
      refine take_run 9 (some 26) (v := ?_) rfl rfl (by kernel_rfl) (by kernel_rfl) (by kernel_rfl) (fun _ _ _ h => h) (by rfl) ?_ hHeld ?_
      rotate_left
      · ((intro w hSw); (try dsimp only at hSw); go_simp <;> with_reducible rfl)
      simp only [Act.put, List.setIfInBounds_toArray, List.set_cons_zero, List.set_cons_succ]
      refine wpAnyH_done (by kernel_rfl) ?_ _
      refine NoPanic.normal ?_
      have hL2 := hide hHeld.2.2.2.2
      clear hHeld hL
      go_wp2
      exact ⟨⟨k + 1, by omega, by go_num, hL2⟩, by simp [intOf]; omega⟩
    · have hkn : k = n := by omega
      subst hkn
      clear hlt
      go_wp2
      go_ret
      exact ⟨rfl, hL.out⟩
set_option maxHeartbeats 1000000 in
theorem eqNodeS_nil (a a' : Option Addr) (c c' : Nat) (w : World) :
    Calls Tryz.prog 130 #[.slice a 0 c, .slice a' 0 c'] w fun e w' => e = .returned (.bool true) ∧ w = w' := by
  go_enter Tryz.func130, Tryz.ntmps130
  go_wp2
  go_loop [5] (fun i => i = .int .i64 0) (fun _ => 0)
  case atStart => exact rfl
  case round =>
    subst hrel
    go_wp2
    go_ret
    exact ⟨rfl, rfl⟩
end Go.Proofs.YtbbaogpgapemhaaGreat
/- Contracts of the making of an empty store, in the program and in the model. No condition. -/
namespace Go.Proofs.YtbbaogpgapemhaaGreat
open Go.RowKit Go.Joins

/-- No version. -/
def v0 : V := ⟨0, 0, 0, none, 0, [], ⟨#[]⟩, false⟩
abbrev zero24 : Array Value := #[.int .i64 0, .int .i64 0, .int .i64 0, .slice none 0 0, .string ⟨#[]⟩, .bool false, .int .i64 0, .int .i64 0, .int .i64 0, .slice none 0 0, .string ⟨#[]⟩, .bool false, .int .i64 0, .int .i64 0, .int .i64 0, .slice none 0 0, .string ⟨#[]⟩, .bool false, .int .i64 0, .int .i64 0, .int .i64 0, .slice none 0 0, .string ⟨#[]⟩, .bool false]
theorem zero24_at : ∀ (i : Nat) (v : V), [v0, v0, v0, v0][i]? = some v → VerAt zero24 i v := by
  intro i v h
  match i with
  | 0 => simp at h; subst h; exact ⟨rfl, rfl, rfl, rfl, rfl, rfl⟩
  | 1 => simp at h; subst h; exact ⟨rfl, rfl, rfl, rfl, rfl, rfl⟩
  | 2 => simp at h; subst h; exact ⟨rfl, rfl, rfl, rfl, rfl, rfl⟩
  | 3 => simp at h; subst h; exact ⟨rfl, rfl, rfl, rfl, rfl, rfl⟩
  | n + 4 => simp at h
theorem v0_mem {v : V} {i : Nat} (h : [v0, v0, v0, v0][i]? = some v) : v = v0 := by
  have := List.mem_of_getElem? h
  simpa using this
/-- What StoreNew leaves. -/
def NewSt (w : World) (e : Ending) (w' : World) : Prop :=
  ∃ g : Nat, e = .returned (.agg #[.slice (some ⟨g, 0, none⟩) 4 4]) ∧ w.heap.size ≤ g ∧ Blk w' g 68 zero24 ∧ Below w.heap.size w w'
end Go.Proofs.YtbbaogpgapemhaaGreat
/- Contracts of ChainNew, in the program and in the model. No condition. -/
namespace Go.Proofs.YtbbaogpgapemhaaGreat
open Go.RowKit Go.Joins
attribute [local go_sem ↓] Go.wp_at_zero Go.wp_at_succ

/-- The cells of a new node whose store lies in block g. -/
def cells2 (g : Nat) : List Value := [.slice (some ⟨g, 0, none⟩) 4 4, .slice none 0 0]
def flat2 (gs : List Nat) : List Value := gs.flatMap cells2
def nd0 (g : Nat) : Nd := ⟨some ⟨g, 0, none⟩, 4, [v0, v0, v0, v0], none, 0, []⟩
theorem flat2_snoc (gs : List Nat) (g : Nat) : flat2 (gs ++ [g]) = flat2 gs ++ cells2 g := by simp [flat2]
theorem flat2_at : ∀ (gs : List Nat) (i g m : Nat), gs[i]? = some g → m < 2 → (flat2 gs)[i * 2 + m]? = (cells2 g)[m]?
  | [], i, v, m, h, _ => by simp at h
  | x :: r, 0, v, m, h, hm => by
    simp at h
    subst h
    have e : flat2 (x :: r) = cells2 x ++ flat2 r := by simp [flat2]
    rw [e, Nat.zero_mul, Nat.zero_add, List.getElem?_append_left (by simp [cells2]; omega)]
  | x :: r, i + 1, v, m, h, hm => by
    have e : flat2 (x :: r) = cells2 x ++ flat2 r := by simp [flat2]
    have h6 : (cells2 x).length = 2 := rfl
    rw [e, List.getElem?_append_right (by omega), h6]
    have : (i + 1) * 2 + m - 2 = i * 2 + m := by omega
    rw [this]
    exact flat2_at r i v m (by simpa using h) hm
theorem ndAt_of {cur : Array Value} {gs : List Nat} {n : Nat} (h : cur.toList.take n = flat2 gs) (i g : Nat) (hi : gs[i]? = some g) : NdAt cur i (nd0 g) := by
  have key : ∀ m, m < 2 → cur[i * 2 + m]? = (cells2 g)[m]? := by
    intro m hm
    have h1 := flat2_at gs i g m hi hm
    rw [← h] at h1
    have h2 : ∃ u, (cells2 g)[m]? = some u := ⟨_, List.getElem?_eq_getElem (by simp [cells2]; omega)⟩
    obtain ⟨u, hu⟩ := h2
    rw [hu] at h1 ⊢
    obtain ⟨hl, _⟩ := List.getElem?_eq_some_iff.1 h1
    rw [List.length_take] at hl
    rw [List.getElem?_take_of_lt (by omega)] at h1
    simpa using h1
  exact ⟨key 0 (by omega), key 1 (by omega)⟩
theorem node_info : (Tryz.prog.info? 132).map (fun i => (i.zero, i.size, i.bytes)) = some (some (.agg #[.slice none 0 0, .slice none 0 0]), 2, 48) := by kernel_rfl

/-- A row of new nodes as it grows. -/
structure NwRow (base : Nat) (wr : World) (x : Value) (gs : List Nat) : Prop where
  row : wr.ownsRow base 132 2 x gs.length (flat2 gs)
  own : ∀ (i g : Nat), gs[i]? = some g → Blk wr g 68 zero24 ∧ base ≤ g
  apart : ∀ (i j g g' : Nat), i ≠ j → gs[i]? = some g → gs[j]? = some g' → g ≠ g'
  lo : base ≤ wr.heap.size
theorem NwRow.start (base : Nat) (w : World) (h : base ≤ w.heap.size) : NwRow base w (.slice none 0 0) [] :=
  ⟨World.ownsRow_nil _ _ _ _, fun i v h => by simp at h, fun i j v v' _ h => by simp at h, h⟩
theorem NwRow.typed {base : Nat} {wr : World} {x : Value} {us : List Nat} (h : NwRow base wr x us) (r : Nat) (hr : x.ownBlock = some r) : ∃ cs, Blk wr r 132 cs ∧ base ≤ r ∧ r < wr.heap.size := by
  rcases h.row.2 with ⟨rfl, _⟩ | ⟨g', cap, cr, rfl, hg', hb', _⟩
  · simp [Value.ownBlock] at hr
  · simp [Value.ownBlock] at hr
    subst hr
    exact ⟨cr, hb', hg', Blk.inside hb'⟩
theorem NwRow.form {base : Nat} {wr : World} {x : Value} {us : List Nat} (h : NwRow base wr x us) : ∃ A n c, x = .slice A n c := by
  rcases h.row.2 with ⟨rfl, _⟩ | ⟨g', cap, cr, rfl, hg', hb', _⟩
  · exact ⟨_, _, _, rfl⟩
  · exact ⟨_, _, _, rfl⟩
theorem NwRow.on {base : Nat} {wr w2 : World} {x : Value} {us : List Nat} (h : NwRow base wr x us) (hb : Below wr.heap.size wr w2) : NwRow base w2 x us :=
  ⟨World.ownsRow.kept h.row (grown_none (row := none) hb) (Classical.em _), fun i v hi => ⟨(h.own i v hi).1.on hb, (h.own i v hi).2⟩, h.apart, Nat.le_trans h.lo hb.size⟩
theorem NwRow.aside {base : Nat} {wr : World} {x : Value} {us : List Nat} (h : NwRow base wr x us) {p : Addr} (hp : p.block < base) (u : Value) : NwRow base (wr.setCell p u) x us :=
  ⟨ownsRow_setCell_below h.row hp u, fun i v hi => ⟨(h.own i v hi).1.aside (by have := (h.own i v hi).2; omega) u, (h.own i v hi).2⟩, h.apart, by simpa [World.setCell] using h.lo⟩
theorem NwRow.down {base base' : Nat} {wr : World} {x : Value} {us : List Nat} (h : NwRow base wr x us) (hb : base' ≤ base) : NwRow base' wr x us :=
  ⟨⟨h.row.1, by
    rcases h.row.2 with h | ⟨g, cap, cr, h1, h2, h3⟩
    · exact .inl h
    · exact .inr ⟨g, cap, cr, h1, by omega, h3⟩⟩, fun i v hi => ⟨(h.own i v hi).1, by have := (h.own i v hi).2; omega⟩, h.apart, by have := h.lo; omega⟩
/-- One node more. -/
theorem NwRow.push {base : Nat} {wr w1 w2 : World} {x : Value} {us : List Nat} {v g cap : Nat} (h : NwRow base wr x us) (hb : Below wr.heap.size wr w1) (hv : wr.heap.size ≤ v) (ho : Blk w1 v 68 zero24)
    (hown : w2.ownsRow base 132 2 (.slice (some ⟨g, 0, none⟩) (us.length + 1) cap) (us.length + 1) (flat2 us ++ cells2 v)) (hg : w1.grownBy w2 x.ownBlock) : NwRow base w2 (.slice (some ⟨g, 0, none⟩) (us.length + 1) cap) (us ++ [v]) := by
  have hk : ∀ y, Blk w1 y 68 zero24 → Blk w2 y 68 zero24 := fun y hy => hy.kept hg (fun e => by
    obtain ⟨cs, h1, _⟩ := h.typed y e
    exact node_ne_ver (blk_one (h1.on hb) hy))
  have zb := h.lo
  have z1 := hb.size
  have z2 := hg.size
  have hget : ∀ (i : Nat) y, (us ++ [v])[i]? = some y → (i = us.length ∧ y = v) ∨ (i < us.length ∧ us[i]? = some y) := by
    intro i y hy
    by_cases e : i < us.length
    · rw [List.getElem?_append_left e] at hy
      exact .inr ⟨e, hy⟩
    · rw [List.getElem?_append_right (by omega)] at hy
      have h0 : i - us.length = 0 := by
        have := (List.getElem?_eq_some_iff.1 hy).1
        simp at this
        omega
      rw [h0] at hy
      simp at hy
      exact .inl ⟨by omega, hy.symm⟩
  have hap : ∀ (i : Nat) y, us[i]? = some y → y ≠ v := fun i y hy => by have := (h.own i y hy).1.inside; omega
  refine ⟨by simpa [flat2_snoc] using hown, fun i y hy => ?_, fun i j y y' hne hy hy' => ?_, by omega⟩
  · rcases hget i y hy with ⟨rfl, rfl⟩ | ⟨_, hy⟩
    · exact ⟨hk _ ho, by omega⟩
    · exact ⟨hk _ ((h.own i y hy).1.on hb), (h.own i y hy).2⟩
  · rcases hget i y hy with ⟨e1, e2⟩ | ⟨e, hq⟩ <;> rcases hget j y' hy' with ⟨e3, e4⟩ | ⟨e', hq'⟩
    · omega
    · rw [e2]; exact fun e => hap j y' hq' e.symm
    · rw [e4]; exact hap i y hq
    · exact h.apart i j y y' hne hq hq'
theorem foot0 {g h : Nat} (hf : FootN (nd0 g) h) : h = g := by
  rcases hf with ⟨_, G, e, hf⟩ | ⟨h0, _⟩
  · simp only [nd0] at e hf
    injection e with e
    injection e with e
    subst e
    rcases hf with hf | ⟨i, v, hi, hn, _⟩
    · exact hf
    · rw [v0_mem hi] at hn
      exact absurd rfl hn
  · exact absurd rfl h0
theorem NwRow.res {base : Nat} {wr : World} {A : Option Addr} {n c : Nat} {gs : List Nat} (h : NwRow base wr (.slice A n c) gs) : n = gs.length ∧ (gs = [] ∨ ∃ G cur, A = some ⟨G, 0, none⟩ ∧ NRow wr base wr.heap.size G (gs.map nd0) cur) := by
  have hget : ∀ (i : Nat) y, (gs.map nd0)[i]? = some y → ∃ g, gs[i]? = some g ∧ y = nd0 g := by
    intro i y hy
    rw [List.getElem?_map] at hy
    cases hx : gs[i]? with
    | none => rw [hx] at hy; cases hy
    | some x =>
      rw [hx] at hy
      simp only [Option.map_some] at hy
      injection hy with hy
      exact ⟨x, rfl, hy.symm⟩
  rcases h.row.2 with ⟨e0, e⟩ | ⟨g', cap, cr, e0, hg', hb', hn, hm, hs, ht⟩
  · injection e0 with _ e1 _
    exact ⟨by omega, .inl (List.length_eq_zero_iff.1 (by omega))⟩
  · injection e0 with e0 e1 e2
    subst e0 e1 e2
    refine ⟨rfl, .inr ⟨g', cr, rfl, hb', hg', Blk.inside hb', by rw [List.length_map]; omega, ?_, ?_, ?_, ?_, ?_⟩⟩
    · intro i y hy
      obtain ⟨g, hg, rfl⟩ := hget i y hy
      exact ndAt_of ht i g hg
    · intro i y hy
      obtain ⟨g, hg, rfl⟩ := hget i y hy
      have ho := h.own i g hg
      exact .inr ⟨g, zero24, rfl, ho.1, ho.2, ho.1.inside, by simp [nd0], zero24_at, fun i v hi => .inl (by rw [v0_mem hi]; rfl), fun i j v v' _ hi _ hn => by rw [v0_mem hi] at hn; exact absurd rfl hn⟩
    · intro i y hy
      obtain ⟨g, hg, rfl⟩ := hget i y hy
      exact .inl rfl
    · intro i y hy g h1 h2
      obtain ⟨g, hg, rfl⟩ := hget i y hy
      exact absurd rfl h2.1
    · intro i j y y' hne hy hy' x h1 h2
      obtain ⟨g, hg, rfl⟩ := hget i y hy
      obtain ⟨g', hg', rfl⟩ := hget j y' hy'
      exact h.apart i j g g' hne hg hg' ((foot0 h1).symm.trans (foot0 h2))

/-- How many nodes a new chain has. -/
def chN (n : Int) : Nat := if 1 ≤ n ∧ n ≤ 4 then n.toNat else 0
/-- A new chain as a call has made it. -/
def ResC (w : World) (B U : Nat) (A : Option Addr) (gs : List Nat) : Prop := gs = [] ∨ ∃ G cur, A = some ⟨G, 0, none⟩ ∧ NRow w B U G (gs.map nd0) cur
def NewC (w : World) (n : Int) (e : Ending) (w' : World) : Prop :=
  ∃ (A : Option Addr) (cap : Nat) (gs : List Nat), e = .returned (.agg #[.slice A (chN n) cap]) ∧ gs.length = chN n ∧ ResC w' w.heap.size w'.heap.size A gs ∧ Below w.heap.size w w'

def NewR (w : World) (n : Int) (e : Ending) (w' : World) : Prop :=
  ∃ (x : Value) (gs : List Nat), e = .returned (.agg #[x]) ∧ gs.length = chN n ∧ NwRow w.heap.size w' x gs ∧ Below w.heap.size w w'

end Go.Proofs.YtbbaogpgapemhaaGreat
/- Chains that a call answers: compared, marked, and the marks found again. Condition: what is said of each. -/
namespace Go.Proofs.YtbbaogpgapemhaaGreat
open Go.RowKit Go.Joins
attribute [local go_sem ↓] Go.wp_at_zero Go.wp_at_succ

/-- A slice of nodes that a call has made: none, or in blocks of its own from B on and below U. -/
def ResN (w : World) (B U : Nat) (A : Option Addr) (ns : List Nd) : Prop := ns = [] ∨ ∃ G cur, A = some ⟨G, 0, none⟩ ∧ NRow w B U G ns cur
theorem NRow.range {w : World} {B U G : Nat} {ns : List Nd} {cur : Array Value} (h : NRow w B U G ns cur) {i : Nat} {n : Nd} (hi : ns[i]? = some n) {g : Nat} (hf : FootN n g) : B ≤ g ∧ g < U := by
  rcases hf with hf | hf
  · obtain ⟨_, _, _, _, h1⟩ := (h.store i n hi).typed hf
    exact h1
  · obtain ⟨_, _, _, _, h1⟩ := (h.wait i n hi).typed hf
    exact h1
theorem ResN.turn {P : Nat → Prop} {w w' : World} {B U : Nat} {A : Option Addr} {ns : List Nd} (h : ResN w B U A ns) (ht : Turn P w w') (hp : ∀ g, B ≤ g → g < U → ¬ P g) : ResN w' B U A ns := by
  rcases h with h | ⟨G, cur, h1, h2⟩
  · exact .inl h
  · exact .inr ⟨G, cur, h1, h2.turned ht (hp G h2.lo h2.hi) (fun i n hi g hf => hp g (h2.range hi hf).1 (h2.range hi hf).2)⟩
theorem ResN.on {w w' : World} {B U : Nat} {A : Option Addr} {ns : List Nd} (h : ResN w B U A ns) (hb : Below w.heap.size w w') : ResN w' B U A ns := h.turn (P := fun _ => False) (.below hb) (fun _ _ _ h => h)
theorem ResN.alloc {w : World} {B U : Nat} {A : Option Addr} {ns : List Nd} (h : ResN w B U A ns) (o : Obj) : ResN (w.alloc o) B U A ns := h.on (below_alloc1 w o)
theorem ResC.n {w : World} {B U : Nat} {A : Option Addr} {gs : List Nat} (h : ResC w B U A gs) : ResN w B U A (gs.map nd0) := by
  rcases h with h | h
  · exact .inl (by rw [h]; rfl)
  · exact .inr h
set_option maxHeartbeats 2000000 in
theorem eqChain_same (B U B' U' : Nat) (A A' : Option Addr) (c c' n : Nat) (ns us : List Nd) (w : World) (hn : n ≤ 1048576) (hvn : ns.length = n) (hun : us.length = n)
    (hlike : ∀ (i : Nat) v v', ns[i]? = some v → us[i]? = some v' → Nd.like v v') (hm : SmallN ns) (hv : ResN w B U A ns) (hu : ResN w B' U' A' us) :
    Calls Tryz.prog 49 #[.agg #[.slice A n c], .agg #[.slice A' n c']] w fun e w' => e = .returned (.bool true) ∧ Below w.heap.size w w' := by
  have S0 := ((Inv.start w).box 33 #[.slice A n c]).box 33 #[.slice A' n c']
  simp only [World.size_alloc] at S0
  have HC : Hid (∀ W, Below w.heap.size w W → Calls Tryz.prog 130 #[.slice A n c, .slice A' n c'] W fun e w' => e = .returned (.bool true) ∧ Below W.heap.size W w') := fun W hW => by
    by_cases h0 : n = 0
    · subst h0
      exact (eqNodeS_nil A A' c c' W).mono fun e w' ⟨h1, h2⟩ => ⟨h1, by rw [← h2]; exact Below.refl _ _⟩
    · rcases hv with h | ⟨G, cur, rfl, hv⟩
      · rw [h] at hvn; exact absurd hvn.symm h0
      · rcases hu with h | ⟨G', cur', rfl, hu⟩
        · rw [h] at hun; exact absurd hun.symm h0
        · exact eqNodeS_same B U G c B' U' G' c' n ns us cur cur' W hn hvn hun hlike hm (hv.on hW) (hu.on hW)
  clear hlike hm hv hu hvn hun
  go_enter Tryz.func49, Tryz.ntmps49
  go_wp2_with fail
  refine (HC.out _ S0.below).mono ?_
  rintro e w1 ⟨rfl, hb1⟩
  have S1 := S0.on hb1
  clear S0
  go_wp2
  go_ret
  exact ⟨rfl, S1.below⟩
end Go.Proofs.YtbbaogpgapemhaaGreat
/- Contracts of the program's links: a node at its place in a chain, and the way to the next one. Condition: a chain's nodes, none or from the beginning of a block. -/
namespace Go.Proofs.YtbbaogpgapemhaaGreat
open Go.RowKit Go.Joins
attribute [local go_sem ↓] Go.wp_at_zero Go.wp_at_succ

/-- The link of node k as it lies in memory, in blocks from B on. -/
def LinkAt (w : World) (B L : Nat) (A : Option Addr) (G n c k : Nat) : Prop :=
  ∃ b1 b2 : Nat, B ≤ L ∧ B ≤ b1 ∧ B ≤ b2 ∧ Blk w L 139 #[.pointer (some ⟨G, k * 2, none⟩), .func (.func 175) #[] #[.pointer (some ⟨b1, 0, none⟩), .pointer (some ⟨b2, 0, none⟩)]] ∧ Blk w b1 31 #[.slice A n c] ∧ Blk w b2 3 #[.int .i64 (k : Int)]
theorem LinkAt.on {w w' : World} {B L G n c k : Nat} {A : Option Addr} (h : LinkAt w B L A G n c k) (hb : Below w.heap.size w w') : LinkAt w' B L A G n c k := by
  obtain ⟨b1, b2, h1, h2, h3, h4, h5, h6⟩ := h
  exact ⟨b1, b2, h1, h2, h3, h4.on hb, h5.on hb, h6.on hb⟩
theorem LinkAt.low {w : World} {B B' L G n c k : Nat} {A : Option Addr} (h : LinkAt w B L A G n c k) (hb : B' ≤ B) : LinkAt w B' L A G n c k := by
  obtain ⟨b1, b2, h1, h2, h3, h4, h5, h6⟩ := h
  exact ⟨b1, b2, by omega, by omega, by omega, h4, h5, h6⟩
/-- What linkAt leaves: nothing behind the last node, else a link. -/
def LinkEnd (w : World) (A : Option Addr) (G n c k : Nat) (e : Ending) (w' : World) : Prop :=
  (if k < n then ∃ L, e = .returned (.pointer (some ⟨L, 0, none⟩)) ∧ LinkAt w' w.heap.size L A G n c k else e = .returned (.pointer none)) ∧ Below w.heap.size w w'
set_option maxRecDepth 100000 in
set_option maxHeartbeats 2000000 in
theorem linkAt_any (G n c k : Nat) (w : World) (_hn : n ≤ 1048576) (hk : k ≤ 1048576) :
    Calls Tryz.prog 120 #[.slice (some ⟨G, 0, none⟩) n c, .int .i64 (k : Int)] w (LinkEnd w (some ⟨G, 0, none⟩) G n c k) := by
  have hmf : ∀ (fn : Fn) (first cap : Array Value) (w : World), (Instr.makeFunc fn first cap).run Tryz.prog w = .ok (.func fn first cap) w := fun _ _ _ _ => rfl
  have h0 : ¬ ((k : Int) < 0) := by omega
  have S0 := ((Inv.start w).box 31 #[.slice (some ⟨G, 0, none⟩) n c]).box 3 #[.int .i64 (k : Int)]
  simp only [World.size_alloc] at S0
  by_cases hlt : k < n
  · have h1 : ¬ ((k : Int) ≥ (n : Int)) := by omega
    have h2 : (k : Int) < (n : Int) := by omega
    have i1 : (0 : Int) ≤ (k : Int) := by omega
    go_enter Tryz.func120, Tryz.ntmps120
    go_wp2
    go_ret
    have S1 := (((Inv.start w).box 31 #[.slice (some ⟨G, 0, none⟩) n c]).box 3 #[.int .i64 (k : Int)]).box 139 #[.pointer (some ⟨G, k * 2, none⟩), .func (.func 175) #[] #[.pointer (some ⟨w.heap.size, 0, none⟩), .pointer (some ⟨w.heap.size + 1, 0, none⟩)]]
    simp only [World.size_alloc] at S1
    refine ⟨?_, S1.below⟩
    rw [if_pos hlt]
    exact ⟨w.heap.size + 1 + 1, rfl, w.heap.size, w.heap.size + 1, by omega, by omega, by omega, S1.nth 0 rfl, S1.nth 2 rfl, S1.nth 1 rfl⟩
  · have h1 : (k : Int) ≥ (n : Int) := by omega
    have h2 : ¬ ((k : Int) < (n : Int)) := by omega
    go_enter Tryz.func120, Tryz.ntmps120
    go_wp2
    go_ret
    exact ⟨by rw [if_neg hlt]; rfl, S0.below⟩
set_option maxRecDepth 100000 in
set_option maxHeartbeats 2000000 in
/-- The way to the next one. -/
theorem next_any (G n c k b1 b2 : Nat) (w : World) (hn : n ≤ 1048576) (hk : k ≤ 1048575) (h1 : Blk w b1 31 #[.slice (some ⟨G, 0, none⟩) n c]) (h2 : Blk w b2 3 #[.int .i64 (k : Int)]) :
    Calls Tryz.prog 175 #[.pointer (some ⟨b1, 0, none⟩), .pointer (some ⟨b2, 0, none⟩)] w (LinkEnd w (some ⟨G, 0, none⟩) G n c (k + 1)) := by
  have q1 := h1.one.1
  have q2 := h2.one.1
  go_enter Tryz.func175, Tryz.ntmps175
  go_wp2_with fail
  have e1 : (k : Int) + 1 = ((k + 1 : Nat) : Int) := by omega
  have CT := linkAt_any G n c (k + 1) w hn (by omega)
  rw [← e1] at CT
  clear e1
  with_reducible refine CT.mono ?_
  clear CT
  rintro e w1 ⟨hE, hb⟩
  have HE := hide hE
  have HB := hide hb
  clear hE hb
  by_cases hlt : k + 1 < n
  · have hq := HE.out
    rw [if_pos hlt] at hq
    obtain ⟨L, rfl, hL⟩ := hq
    have HLL := hide hL
    clear hL
    go_wp2
    go_ret
    exact ⟨by rw [if_pos hlt]; exact ⟨L, rfl, HLL.out⟩, HB.out⟩
  · have hq := HE.out
    rw [if_neg hlt] at hq
    subst hq
    go_wp2
    go_ret
    exact ⟨by rw [if_neg hlt]; rfl, HB.out⟩
end Go.Proofs.YtbbaogpgapemhaaGreat
/- Whether nodes, links and chains are valid, said plainly; such as say the same are alike in that. No condition. -/
namespace Go.Proofs.YtbbaogpgapemhaaGreat

/-- Two slices of versions say the same. -/
def LL (us us' : List V) : Prop := us.length = us'.length ∧ Like us us'
theorem vlike_refl (v : V) : V.like v v := ⟨rfl, rfl, rfl, rfl, rfl, rfl⟩
theorem vlike_symm {v u : V} (h : V.like v u) : V.like u v := ⟨h.1.symm, h.2.1.symm, h.2.2.1.symm, h.2.2.2.1.symm, h.2.2.2.2.1.symm, h.2.2.2.2.2.symm⟩
theorem vlike_trans {v u x : V} (h : V.like v u) (k : V.like u x) : V.like v x := ⟨h.1.trans k.1, h.2.1.trans k.2.1, h.2.2.1.trans k.2.2.1, h.2.2.2.1.trans k.2.2.2.1, h.2.2.2.2.1.trans k.2.2.2.2.1, h.2.2.2.2.2.trans k.2.2.2.2.2⟩
theorem ll_refl (us : List V) : LL us us := ⟨rfl, like_refl us⟩
theorem ll_symm {us us' : List V} (h : LL us us') : LL us' us := ⟨h.1.symm, h.2.swap⟩
theorem ll_trans {us us' us'' : List V} (h : LL us us') (k : LL us' us'') : LL us us'' := ⟨h.1.trans k.1, fun i v v' hv hv' => by
  have hlt : i < us'.length := by have := (List.getElem?_eq_some_iff.1 hv).1; have := h.1; omega
  exact vlike_trans (h.2 i v _ hv (List.getElem?_eq_getElem hlt)) (k.2 i _ v' (List.getElem?_eq_getElem hlt) hv')⟩
theorem ll_at {us us' : List V} (h : LL us us') {i : Nat} {v : V} (hv : us[i]? = some v) : ∃ v', us'[i]? = some v' ∧ V.like v v' := by
  have hlt : i < us'.length := by have := (List.getElem?_eq_some_iff.1 hv).1; have := h.1; omega
  exact ⟨_, List.getElem?_eq_getElem hlt, h.2 i v _ hv (List.getElem?_eq_getElem hlt)⟩
theorem ll_none {us us' : List V} (h : LL us us') {i : Nat} (hv : us[i]? = none) : us'[i]? = none := by
  rw [List.getElem?_eq_none_iff] at *
  have := h.1
  omega
theorem ll_set {us us' : List V} {v v' : V} (h : LL us us') (hv : V.like v v') (j : Nat) : LL (us.set j v) (us'.set j v') := by
  refine ⟨by rw [List.length_set, List.length_set]; exact h.1, fun i x y hx hy => ?_⟩
  by_cases e : i = j
  · subst e
    have hlt : i < us.length := by have := (List.getElem?_eq_some_iff.1 hx).1; rw [List.length_set] at this; exact this
    have hlt' : i < us'.length := by have := h.1; omega
    rw [List.getElem?_set_self hlt] at hx
    rw [List.getElem?_set_self hlt'] at hy
    injection hx with hx
    injection hy with hy
    rw [← hx, ← hy]
    exact hv
  · rw [List.getElem?_set_ne (Ne.symm e)] at hx hy
    exact h.2 i x y hx hy
theorem likesB_ll (us us' : List V) : likesB us us' = true ↔ LL us us' := likesB_iff us us'
theorem likesB_like {a a' b b' : List V} (h : LL a a') (k : LL b b') : likesB a b = likesB a' b' := by
  rw [Bool.eq_iff_iff, likesB_ll, likesB_ll]
  exact ⟨fun q => ll_trans (ll_symm h) (ll_trans q k), fun q => ll_trans h (ll_trans q (ll_symm k))⟩
/-- Whether a node is valid by itself. -/
def nodeB (n : Nd) : Bool := storeB n.ss && decide (n.ws.length ≤ 6) && n.ws.all verV
/-- One version that waits comes to a store, if it is later. -/
def stepL (us : List V) (v : V) : Option (List V) := match us[v.k.toNat]? with | some x => if lessB x.t x.u v.t v.u = true then some (us.set v.k.toNat v) else none | none => none
/-- All that waits comes to a store. -/
def walkL (us : List V) (ws : List V) : Option (List V) := ws.foldl (fun o v => o.bind fun us => stepL us v) (some us)
theorem walkL_step {us ws : List V} {k : Nat} {v : V} (h : ws[k]? = some v) : walkL us (ws.take (k + 1)) = (walkL us (ws.take k)).bind fun us => stepL us v := by
  unfold walkL
  rw [List.take_add_one, h, List.foldl_append]
  rfl
theorem walk_none (ws : List V) : ws.foldl (fun o v => o.bind fun us => stepL us v) (none : Option (List V)) = none := by
  induction ws with
  | nil => rfl
  | cons v r ih => exact ih
theorem walkL_none {us ws : List V} {k : Nat} (h : walkL us (ws.take k) = none) : walkL us ws = none := by
  unfold walkL at *
  rw [← List.take_append_drop k ws, List.foldl_append, h, walk_none]
/-- What waits at a node is what the next one lacks. -/
def linkB (n m : Nd) : Bool := match walkL m.ss n.ws with | some us => likesB us n.ss | none => false
theorem linkB_none {n m : Nd} {k : Nat} (h : walkL m.ss (n.ws.take k) = none) : linkB n m = false := by
  unfold linkB
  rw [walkL_none h]
theorem linkB_some {n m : Nd} {us : List V} (h : walkL m.ss n.ws = some us) : linkB n m = likesB us n.ss := by
  unfold linkB
  rw [h]
def stepB (ns : List Nd) (k : Nat) : Bool := match ns[k]? with | some n => (match ns[k + 1]? with | some m => linkB n m | none => decide (n.ws.length = 0)) | none => true
/-- Whether a chain is valid. -/
def chainB (ns : List Nd) : Bool := decide (1 ≤ ns.length ∧ ns.length ≤ 4) && ns.all nodeB && (List.range ns.length).all (stepB ns)
theorem chainB_len {ns : List Nd} (h : ¬ (1 ≤ ns.length ∧ ns.length ≤ 4)) : chainB ns = false := by unfold chainB; rw [decide_eq_false h]; rfl
theorem chainB_node {ns : List Nd} {i : Nat} {n : Nd} (hi : ns[i]? = some n) (h : nodeB n = false) : chainB ns = false := by
  unfold chainB
  have : ns.all nodeB = false := by
    rw [List.all_eq_false]
    exact ⟨n, List.mem_of_getElem? hi, by rw [h]; decide⟩
  rw [this]
  simp
theorem chainB_step {ns : List Nd} {i : Nat} (hi : i < ns.length) (h : stepB ns i = false) : chainB ns = false := by
  unfold chainB
  have : (List.range ns.length).all (stepB ns) = false := by
    rw [List.all_eq_false]
    exact ⟨i, List.mem_range.2 hi, by rw [h]; decide⟩
  rw [this]
  simp
theorem chainB_ok {ns : List Nd} (h0 : 1 ≤ ns.length ∧ ns.length ≤ 4) (h1 : ∀ (i : Nat) n, ns[i]? = some n → nodeB n = true) (h2 : ∀ i, i < ns.length → stepB ns i = true) : chainB ns = true := by
  unfold chainB
  rw [decide_eq_true h0, Bool.true_and, Bool.and_eq_true, List.all_eq_true, List.all_eq_true]
  refine ⟨fun n hn => ?_, fun i hi => h2 i (List.mem_range.1 hi)⟩
  obtain ⟨i, hi⟩ := List.getElem?_of_mem hn
  exact h1 i n hi
theorem chainB_parts {ns : List Nd} (h : chainB ns = true) : (1 ≤ ns.length ∧ ns.length ≤ 4) ∧ (∀ (i : Nat) n, ns[i]? = some n → nodeB n = true) ∧ ∀ i, i < ns.length → stepB ns i = true := by
  unfold chainB at h
  rw [Bool.and_eq_true, Bool.and_eq_true, decide_eq_true_eq, List.all_eq_true, List.all_eq_true] at h
  exact ⟨h.1.1, fun i n hi => h.1.2 n (List.mem_of_getElem? hi), fun i hi => h.2 i (List.mem_range.2 hi)⟩
theorem nodeB_parts {n : Nd} (h : nodeB n = true) : storeB n.ss = true ∧ n.ws.length ≤ 6 ∧ ∀ v ∈ n.ws, verV v = true := by
  unfold nodeB at h
  rw [Bool.and_eq_true, Bool.and_eq_true, decide_eq_true_eq, List.all_eq_true] at h
  exact ⟨h.1.1, h.1.2, h.2⟩
theorem stepL_like {us us' : List V} {v v' : V} (h : LL us us') (hv : V.like v v') : (stepL us v = none ∧ stepL us' v' = none) ∨ ∃ x x', stepL us v = some x ∧ stepL us' v' = some x' ∧ LL x x' := by
  unfold stepL
  rw [← hv.1, ← hv.2.1, ← hv.2.2.1]
  cases hx : us[v.k.toNat]? with
  | none => exact .inl ⟨rfl, by rw [ll_none h hx]⟩
  | some x =>
    obtain ⟨x', hx', hl⟩ := ll_at h hx
    rw [hx']
    simp only
    rw [← hl.2.1, ← hl.2.2.1]
    by_cases q : lessB x.t x.u v.t v.u = true
    · rw [if_pos q, if_pos q]
      exact .inr ⟨_, _, rfl, rfl, ll_set h hv _⟩
    · rw [if_neg q, if_neg q]
      exact .inl ⟨rfl, rfl⟩
theorem ll_cons {v v' : V} {r r' : List V} (h : LL (v :: r) (v' :: r')) : V.like v v' ∧ LL r r' := ⟨h.2 0 v v' rfl rfl, by simpa using h.1, fun i x y hx hy => h.2 (i + 1) x y hx hy⟩
theorem walkL_like : ∀ {ws ws' us us' : List V}, LL ws ws' → LL us us' → (walkL us ws = none ∧ walkL us' ws' = none) ∨ ∃ x x', walkL us ws = some x ∧ walkL us' ws' = some x' ∧ LL x x'
  | [], [], us, us', _, h => .inr ⟨us, us', rfl, rfl, h⟩
  | [], _ :: _, _, _, h, _ => by simp [LL] at h
  | _ :: _, [], _, _, h, _ => by simp [LL] at h
  | v :: r, v' :: r', us, us', hw, h => by
    obtain ⟨h1, h2⟩ := ll_cons hw
    have e : walkL us (v :: r) = r.foldl (fun o v => o.bind fun us => stepL us v) (stepL us v) := rfl
    have e' : walkL us' (v' :: r') = r'.foldl (fun o v => o.bind fun us => stepL us v) (stepL us' v') := rfl
    rw [e, e']
    rcases stepL_like h h1 with ⟨q1, q2⟩ | ⟨x, x', q1, q2, q3⟩
    · rw [q1, q2, walk_none, walk_none]
      exact .inl ⟨rfl, rfl⟩
    · rw [q1, q2]
      exact walkL_like h2 q3
theorem linkB_like {n n' m m' : Nd} (h : Nd.like n n') (k : Nd.like m m') : linkB n m = linkB n' m' := by
  unfold linkB
  rcases walkL_like (ws := n.ws) (ws' := n'.ws) (us := m.ss) (us' := m'.ss) ⟨h.2.2.1, h.2.2.2⟩ ⟨k.1, k.2.1⟩ with ⟨q1, q2⟩ | ⟨x, x', q1, q2, q3⟩
  · rw [q1, q2]
  · rw [q1, q2]
    exact likesB_like q3 ⟨h.1, h.2.1⟩
theorem verV_like {v v' : V} (h : V.like v v') : verV v = verV v' := by
  unfold verV
  rw [h.1, h.2.1, h.2.2.1, h.2.2.2.1, h.2.2.2.2.1, h.2.2.2.2.2]
theorem allV_like : ∀ {ws ws' : List V}, LL ws ws' → ws.all verV = ws'.all verV
  | [], [], _ => rfl
  | [], _ :: _, h => by simp [LL] at h
  | _ :: _, [], h => by simp [LL] at h
  | v :: r, v' :: r', h => by
    obtain ⟨h1, h2⟩ := ll_cons h
    rw [List.all_cons, List.all_cons, verV_like h1, allV_like h2]
theorem nodeB_like {n n' : Nd} (h : Nd.like n n') : nodeB n = nodeB n' := by
  unfold nodeB
  rw [storeB_like h.1 h.2.1, h.2.2.1, allV_like (ws := n.ws) (ws' := n'.ws) ⟨h.2.2.1, h.2.2.2⟩]
/-- Two slices of nodes say the same. -/
def NL (ns us : List Nd) : Prop := ns.length = us.length ∧ ∀ (i : Nat) v v', ns[i]? = some v → us[i]? = some v' → Nd.like v v'
theorem nl_at {us us' : List Nd} (h : NL us us') {i : Nat} {v : Nd} (hv : us[i]? = some v) : ∃ v', us'[i]? = some v' ∧ Nd.like v v' := by
  have hlt : i < us'.length := by have := (List.getElem?_eq_some_iff.1 hv).1; have := h.1; omega
  exact ⟨_, List.getElem?_eq_getElem hlt, h.2 i v _ hv (List.getElem?_eq_getElem hlt)⟩
theorem nl_none {us us' : List Nd} (h : NL us us') {i : Nat} (hv : us[i]? = none) : us'[i]? = none := by
  rw [List.getElem?_eq_none_iff] at *
  have := h.1
  omega
theorem stepB_like {ns us : List Nd} (h : NL ns us) (k : Nat) : stepB ns k = stepB us k := by
  unfold stepB
  cases hx : ns[k]? with
  | none => rw [nl_none h hx]
  | some n =>
    obtain ⟨n', hx', hl⟩ := nl_at h hx
    rw [hx']
    cases hy : ns[k + 1]? with
    | none => rw [nl_none h hy]; simp only [hl.2.2.1]
    | some m =>
      obtain ⟨m', hy', hm⟩ := nl_at h hy
      rw [hy']
      exact linkB_like hl hm
theorem ndlike_symm {n n' : Nd} (h : Nd.like n n') : Nd.like n' n := ⟨h.1.symm, h.2.1.swap, h.2.2.1.symm, h.2.2.2.swap⟩
theorem ndlike_trans {n n' n'' : Nd} (h : Nd.like n n') (k : Nd.like n' n'') : Nd.like n n'' :=
  ⟨h.1.trans k.1, (ll_trans (us := n.ss) (us' := n'.ss) ⟨h.1, h.2.1⟩ ⟨k.1, k.2.1⟩).2, h.2.2.1.trans k.2.2.1, (ll_trans (us := n.ws) (us' := n'.ws) ⟨h.2.2.1, h.2.2.2⟩ ⟨k.2.2.1, k.2.2.2⟩).2⟩
theorem nl_symm {ns us : List Nd} (h : NL ns us) : NL us ns := ⟨h.1.symm, fun i v v' hv hv' => ndlike_symm (h.2 i v' v hv' hv)⟩
theorem nl_trans {a b c : List Nd} (h : NL a b) (k : NL b c) : NL a c := ⟨h.1.trans k.1, fun i v v' hv hv' => by
  obtain ⟨x, hx, hl⟩ := nl_at h hv
  exact ndlike_trans hl (k.2 i x v' hx hv')⟩
theorem chainB_like {ns us : List Nd} (h : NL ns us) : chainB ns = chainB us := by
  have key : ∀ {ns us : List Nd}, NL ns us → chainB ns = true → chainB us = true := fun {ns us} h hq => by
    obtain ⟨h0, h1, h2⟩ := chainB_parts hq
    refine chainB_ok (by rw [← h.1]; exact h0) (fun i n hi => ?_) (fun i hi => ?_)
    · obtain ⟨n', hn', hl⟩ := nl_at (nl_symm h) hi
      rw [nodeB_like hl]
      exact h1 i n' hn'
    · rw [← stepB_like h]
      exact h2 i (by have := h.1; omega)
  rw [Bool.eq_iff_iff]
  exact ⟨key h, key (nl_symm h)⟩
end Go.Proofs.YtbbaogpgapemhaaGreat
/- Contracts of whether a node is valid by itself, in the program; and of the library's search among versions with a function value. Condition: what is said of each. -/
namespace Go.Proofs.YtbbaogpgapemhaaGreat
open Go.RowKit Go.Joins
attribute [local go_sem ↓] Go.wp_at_zero Go.wp_at_succ

/-- A function with a body is entered. -/
theorem run_enterV {f : FuncId} {fn : Func} {c : Code} (hf : Tryz.prog.funcs[f]? = some fn) (hname : (fn.name == "runtime.NumGoroutine") = false) (hb : fn.body = some c) (args : Array Value) (w : World) :
    (callFunc f args).run Tryz.prog w = .ok (.enter f args) w := by
  have h1 : fn.name ≠ "runtime.NumGoroutine" := by simpa using hname
  simp [callFunc, hf, h1, hb]
/-- The place of the first version that is such, or -1. -/
def findV (p : V → Bool) (vs : List V) : Int := match vs.findIdx? p with | some i => (i : Int) | none => -1
theorem findV_at {p : V → Bool} {ds : List V} {k : Nat} {x : V} (hx : ds[k]? = some x) (hp : p x = true) (hb : ∀ j y, j < k → ds[j]? = some y → p y = false) : findV p ds = (k : Int) := by
  have hk := (List.getElem?_eq_some_iff.1 hx).1
  have : ds.findIdx? p = some k := by
    rw [List.findIdx?_eq_some_iff_getElem]
    refine ⟨hk, by rw [(List.getElem?_eq_some_iff.1 hx).2]; exact hp, fun j hj => ?_⟩
    have := hb j ds[j] hj (List.getElem?_eq_getElem (by omega))
    simp [this]
  unfold findV
  rw [this]
theorem findV_not {p : V → Bool} {ds : List V} (hb : ∀ (j : Nat) y, ds[j]? = some y → p y = false) : findV p ds = -1 := by
  have : ds.findIdx? p = none := by
    rw [List.findIdx?_eq_none_iff]
    intro x hx
    obtain ⟨j, hj⟩ := List.getElem?_of_mem hx
    exact hb j x hj
  unfold findV
  rw [this]
theorem findV_any (p : V → Bool) (ds : List V) : decide (0 ≤ findV p ds) = ds.any p := by
  unfold findV
  cases h : ds.findIdx? p with
  | none =>
    rw [List.findIdx?_eq_none_iff] at h
    have : ds.any p = false := by
      rw [List.any_eq_false]
      intro x hx
      rw [h x hx]
      decide
    rw [this]
    simp
  | some i =>
    rw [List.findIdx?_eq_some_iff_getElem] at h
    obtain ⟨hi, hp, _⟩ := h
    have : ds.any p = true := by
      rw [List.any_eq_true]
      exact ⟨_, List.getElem_mem hi, hp⟩
    rw [this]
    simp
set_option maxHeartbeats 1000000 in
theorem nodeNot_any (k t u : Int) (a : Option Addr) (c : Nat) (ts : List (Int × Int)) (s : ByteArray) (g : Bool) (w : World) (hn : ts.length ≤ 1048576) (hs : s.size ≤ 9223372036854775807) (ht : Tg w w.heap.size a ts) :
    Calls Tryz.prog 174 #[.agg (verC k t u a ts.length c s g)] w fun e w' => e = .returned (.bool (!verB k t u ts s g)) ∧ Below w.heap.size w w' := by
  have S0 := (Inv.start w).box 68 (verC k t u a ts.length c s g)
  simp only [World.size_alloc] at S0
  have q0 := (S0.nth 0 rfl).six.1
  go_enter Tryz.func174, Tryz.ntmps174
  go_wp2_with fail
  refine (implVerOk_any k t u a c ts s g _ hn hs ((ht.on S0.below).up S0.base)).mono ?_
  rintro e w1 ⟨rfl, hb1⟩
  have S1 := S0.on hb1
  clear S0 q0
  generalize hx : verB k t u ts s g = x
  have HX := hide hx
  clear hx
  go_wp2
  go_ret
  exact ⟨ret_bool (by rw [HX.out]), S1.below⟩
set_option maxRecDepth 100000 in
set_option maxHeartbeats 2000000 in
theorem indexVer_any (a : Option Addr) (c : Nat) (vs : List V) (w : World) (hn : vs.length ≤ 1048576) (hm : Small vs) (hv : Vg w w.heap.size a vs) :
    Calls Tryz.prog 166 #[.slice a vs.length c, .func (.func 174) #[] #[]] w fun e w' => e = .returned (.int .i64 (findV (fun v => !verV v) vs)) ∧ Below w.heap.size w w' := by
  have HM := hide hm
  clear hm
  generalize hnn : vs.length = n at *
  have HN := hide hnn
  clear hnn
  go_enter Tryz.func166, Tryz.ntmps166
  go_wp2
  go_loopw [8] (fun i wr => ∃ k : Nat, k ≤ n ∧ i = .int .i64 (k : Int) ∧ Hid (∀ (j : Nat) y, j < k → vs[j]? = some y → (!verV y) = false) ∧ Below w.heap.size w wr) (fun i _ => n - (intOf i).toNat)
  case atStart => exact ⟨0, Nat.zero_le _, rfl, fun j x hj => absurd hj (by omega), Below.refl _ _⟩
  case round =>
    obtain ⟨k, hk, rfl, hno, hL⟩ := hrel
    by_cases hlt : k < n
    · rcases hv with h0 | ⟨b, off, rfl, hb, hx⟩
      · have := HN.out; subst h0; simp at this; omega
      · have hkl : k < vs.length := by have := HN.out; omega
        obtain ⟨hS, hT⟩ := hx k _ (List.getElem?_eq_getElem hkl)
        have HY := hide (List.getElem?_eq_getElem hkl)
        generalize vs[k] = v at hS hT HY
        have HB := hide (HM.out v (List.mem_of_getElem? HY.out))
        obtain ⟨vk, vt, vu, va, vc, vts, vs', vg⟩ := v
        have Q1 := (hS.keep hb fun _ hp => hL.cell hp)
        simp only at Q1 hT
        have T1 := hide hT
        clear hS hT hx
        have i1 : (0 : Int) ≤ (k : Int) := by omega
        have i2 : (k : Int) < (n : Int) := by omega
        go_wp2_with fail
        refine (nodeNot_any vk vt vu va vc vts vs' vg _ HB.out.1 HB.out.2 ((T1.out.on hL).up hL.size)).mono ?_
        rintro e w1 ⟨rfl, hb1⟩
        have hL1 := hL.trans (hb1.mono hL.size)
        cases hpy : verB vk vt vu vts vs' vg
        · have hf := hide (findV_at (p := fun v => !verV v) HY.out (by show (!verB vk vt vu vts vs' vg) = true; rw [hpy]; rfl) hno.out)
          clear hpy Q1
          go_wp2
          go_ret
          exact ⟨ret_int hf.out.symm, hL1⟩
        · have HN1 : Hid (∀ (j : Nat) y, j < k + 1 → vs[j]? = some y → (!verV y) = false) := fun j x hj hx => by
            by_cases e : j = k
            · subst e
              have h1 := HY.out
              rw [h1] at hx
              injection hx with hx
              subst hx
              show (!verB vk vt vu vts vs' vg) = false
              rw [hpy]
              rfl
            · exact hno.out j x (by omega) hx
          clear hpy Q1
          go_wp2
          exact ⟨⟨k + 1, by omega, by go_num, HN1, hL1⟩, by simp [intOf]; omega⟩
    · have hkn : k = n := by omega
      subst hkn
      clear hlt
      have hf := hide (findV_not (p := fun v => !verV v) (ds := vs) fun j y hy => hno.out j y (by have := (List.getElem?_eq_some_iff.1 hy).1; have := HN.out; omega) hy)
      go_wp2
      go_ret
      exact ⟨ret_int hf.out.symm, hL⟩
set_option maxHeartbeats 1000000 in
theorem containsVer_any (a : Option Addr) (c : Nat) (vs : List V) (w : World) (hn : vs.length ≤ 1048576) (hm : Small vs) (hv : Vg w w.heap.size a vs) :
    Calls Tryz.prog 128 #[.slice a vs.length c, .func (.func 174) #[] #[]] w fun e w' => e = .returned (.bool (vs.any fun v => !verV v)) ∧ Below w.heap.size w w' := by
  have H := hide (findV_any (fun v => !verV v) vs)
  have C0 := hide (indexVer_any a c vs w hn hm hv)
  go_enter Tryz.func128, Tryz.ntmps128
  go_wp2_with fail
  refine C0.out.mono ?_
  rintro e w1 ⟨rfl, hb1⟩
  generalize findV (fun v => !verV v) vs = x at H ⊢
  go_wp2
  go_ret
  exact ⟨ret_bool H.out, hb1⟩
set_option maxHeartbeats 2000000 in
theorem nodeOk_any (sa : Option Addr) (sc : Nat) (ss : List V) (wa : Option Addr) (wc : Nat) (ws : List V) (w : World) (hn : ss.length ≤ 1048576) (hn' : ws.length ≤ 1048576) (hm : Small ss) (hm' : Small ws) (hv : Vg w w.heap.size sa ss) (hw : Vg w w.heap.size wa ws) :
    Calls Tryz.prog 119 #[.agg #[.slice sa ss.length sc, .slice wa ws.length wc]] w fun e w' => e = .returned (.bool (nodeB ⟨sa, sc, ss, wa, wc, ws⟩)) ∧ Below w.heap.size w w' := by
  have S0 := (Inv.start w).box 132 #[.slice sa ss.length sc, .slice wa ws.length wc]
  simp only [World.size_alloc] at S0
  have q0 := (S0.nth 0 rfl).two.1
  go_enter Tryz.func119, Tryz.ntmps119
  go_wp2_with fail
  refine (implStoreOk_any sa sc ss _ hn hm ((hv.on S0.below).up S0.base)).mono ?_
  rintro e w1 ⟨rfl, hb1⟩
  have S1 := S0.on hb1
  have q1 : w1.cell? ⟨w.heap.size, 1, none⟩ = some (.slice wa ws.length wc) := (S1.nth 0 rfl).at 1
  clear S0 q0
  cases hs : storeB ss
  · have HF : Hid (nodeB ⟨sa, sc, ss, wa, wc, ws⟩ = false) := by unfold Hid nodeB; simp [hs]
    clear hs
    go_wp2
    go_ret
    exact ⟨ret_bool HF.out.symm, S1.below⟩
  · by_cases hl : ws.length ≤ 6
    · have HF : Hid (nodeB ⟨sa, sc, ss, wa, wc, ws⟩ = !(ws.any fun v => !verV v)) := by
        unfold Hid nodeB
        simp only [hs, hl, decide_true, Bool.true_and]
        exact List.all_eq_not_any_not
      have h6 : (ws.length : Int) ≤ 6 := by omega
      have HW := hide ((hw.on S1.below).up S1.base)
      clear hs hl hw
      go_wp2_with fail
      refine (containsVer_any wa wc ws _ hn' hm' HW.out).mono ?_
      rintro e w2 ⟨rfl, hb2⟩
      have S2 := S1.on hb2
      clear S1 q1
      generalize (ws.any fun v => !verV v) = x at HF ⊢
      go_wp2
      go_ret
      exact ⟨ret_bool HF.out.symm, S2.below⟩
    · have HF : Hid (nodeB ⟨sa, sc, ss, wa, wc, ws⟩ = false) := by unfold Hid nodeB; simp [hl]
      have h6 : ¬ ((ws.length : Int) ≤ 6) := by omega
      clear hs hl
      go_wp2
      go_ret
      exact ⟨ret_bool HF.out.symm, S1.below⟩
end Go.Proofs.YtbbaogpgapemhaaGreat
