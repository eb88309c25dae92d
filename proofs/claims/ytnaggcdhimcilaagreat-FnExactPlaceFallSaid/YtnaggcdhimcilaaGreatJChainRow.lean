/- Places: their values, how they are read, their size, how they are copied, compared, marked, and the marks found again. Condition: what is said of each. -/
import Derived.Test.YtnaggcdhimcilaaGreatJLogMark
namespace Go.Proofs.YtnaggcdhimcilaaGreat
open Go.RowKit Go.Joins
attribute [local go_sem ↓] Go.wp_at_zero Go.wp_at_succ

/-- A place as it lies in memory. -/
structure Pl where
  me : Int
  ck : Int
  ca : Option Addr
  cc : Nat
  ns : List Nd
  la : Option Addr
  lc : Nat
  log : List V
  ga : Option Addr
  gc : Nat
  gs : List Lg
  fell : Bool
/-- Its cells. -/
abbrev plCells (p : Pl) : Array Value := #[.int .i64 p.me, .int .i64 p.ck, .slice p.ca p.ns.length p.cc, .slice p.la p.log.length p.lc, .slice p.ga p.gs.length p.gc, .bool p.fell]
/-- Cells of a place whose slices have these lengths. -/
abbrev plAt (me ck : Int) (ca : Option Addr) (cn cc : Nat) (la : Option Addr) (ln lc : Nat) (ga : Option Addr) (gn gc : Nat) (f : Bool) : Array Value := #[.int .i64 me, .int .i64 ck, .slice ca cn cc, .slice la ln lc, .slice ga gn gc, .bool f]
/-- A place that can be read, in old memory. -/
def Pg (w : World) (B : Nat) (p : Pl) : Prop := Ng w B p.ca p.ns ∧ Vg w B p.la p.log ∧ Lgs w B p.ga p.gs
theorem Pg.on {w w' : World} {B : Nat} {p : Pl} (h : Pg w B p) (hb : Below B w w') : Pg w' B p := ⟨h.1.on hb, h.2.1.on hb, h.2.2.on hb⟩
theorem Pg.up {w : World} {B B' : Nat} {p : Pl} (h : Pg w B p) (hB : B ≤ B') : Pg w B' p := ⟨h.1.up hB, h.2.1.up hB, h.2.2.up hB⟩
/-- How much a place weighs. -/
def totC (p : Pl) : Nat := p.ns.length + totNs p.ns
def totLg (p : Pl) : Nat := p.log.length + tot p.log
def totGt (p : Pl) : Nat := p.gs.length + totL p.gs
def totP (p : Pl) : Nat := totC p + totLg p + totGt p
def BigP (p : Pl) : Prop := (p.ns.length ≤ 9223372036854775807 ∧ BigN p.ns) ∧ BigV p.log ∧ p.gs.length ≤ 9223372036854775807 ∧ BigL p.gs
set_option maxHeartbeats 2000000 in
theorem szPlace_fits (p : Pl) (left : Int) (w : World) (h0 : left ≤ 1048576) (hf : (totP p : Int) ≤ left) (hv : Pg w w.heap.size p) :
    Calls Tryz.prog 6 #[.agg (plCells p), .int .i64 left] w fun e w' => e = .returned (.int .i64 (left - totP p)) ∧ Below w.heap.size w w' := by
  have HE : Hid ((totP p : Int) = ((p.ns.length : Int) + totNs p.ns) + (p.log.length + tot p.log) + (p.gs.length + totL p.gs)) := by unfold Hid totP totC totLg totGt; omega
  have S0 := (Inv.start w).box 28 (plCells p)
  simp only [World.size_alloc] at S0
  obtain ⟨me, ck, ca, cc, ns, la, lc, log, ga, gc, gs, fell⟩ := p
  simp only at HE hv S0
  have q0 := (S0.nth 0 rfl).six
  have h1 : ¬ (left - (ns.length : Int) - (totNs ns : Int) < 0) := by have := HE.out; omega
  have h2 : ¬ (left - (ns.length : Int) - (totNs ns : Int) - (log.length : Int) - (tot log : Int) < 0) := by have := HE.out; omega
  have h3 : ¬ (left - (ns.length : Int) - (totNs ns : Int) - (log.length : Int) - (tot log : Int) - (gs.length : Int) - (totL gs : Int) < 0) := by have := HE.out; omega
  have HV := hide hv
  clear hv
  go_enter Tryz.func6, Tryz.ntmps6
  go_wp2_with fail
  refine (szChain_fits ca cc ns left _ h0 (by have := HE.out; omega) ((HV.out.1.on S0.below).up S0.base)).mono ?_
  rintro e w1 ⟨rfl, hb1⟩
  have S1 := S0.on hb1
  have q1 := (S1.nth 0 rfl).six
  clear S0 q0
  go_wp2_with fail
  refine (szVerS_fits la lc log _ _ (by omega) (by have := HE.out; omega) ((HV.out.2.1.on S1.below).up S1.base)).mono ?_
  rintro e w2 ⟨rfl, hb2⟩
  have S2 := S1.on hb2
  have q2 := (S2.nth 0 rfl).six
  clear S1 q1
  go_wp2_with fail
  refine (szVerSS_fits ga gc gs _ _ (by omega) (by have := HE.out; omega) ((HV.out.2.2.on S2.below).up S2.base)).mono ?_
  rintro e w3 ⟨rfl, hb3⟩
  have S3 := S2.on hb3
  clear S2 q2
  have HF : Hid (left - (ns.length : Int) - (totNs ns : Int) - (log.length : Int) - (tot log : Int) - (gs.length : Int) - (totL gs : Int) = left - totP ⟨me, ck, ca, cc, ns, la, lc, log, ga, gc, gs, fell⟩) := by have := HE.out; unfold Hid; omega
  generalize left - (ns.length : Int) - (totNs ns : Int) - (log.length : Int) - (tot log : Int) - (gs.length : Int) - (totL gs : Int) = z at HF h3 ⊢
  go_wp2
  go_ret
  exact ⟨ret_int HF.out, S3.below⟩
set_option maxHeartbeats 2000000 in
theorem szPlace_not (p : Pl) (left : Int) (w : World) (h0 : left ≤ 1048576) (h00 : 0 ≤ left) (hB : BigP p) (hf : left < (totP p : Int)) (hv : Pg w w.heap.size p) :
    Calls Tryz.prog 6 #[.agg (plCells p), .int .i64 left] w fun e w' => e = .returned (.int .i64 (-1)) ∧ Below w.heap.size w w' := by
  have HE : Hid ((totP p : Int) = ((p.ns.length : Int) + totNs p.ns) + (p.log.length + tot p.log) + (p.gs.length + totL p.gs)) := by unfold Hid totP totC totLg totGt; omega
  have S0 := (Inv.start w).box 28 (plCells p)
  simp only [World.size_alloc] at S0
  have HB := hide hB
  clear hB
  obtain ⟨me, ck, ca, cc, ns, la, lc, log, ga, gc, gs, fell⟩ := p
  simp only at HE hv S0 HB hf
  have HF := hide (show left < ((ns.length : Int) + totNs ns) + (log.length + tot log) + (gs.length + totL gs) by have := HE.out; omega)
  clear hf HE
  have q0 := (S0.nth 0 rfl).six
  have HV := hide hv
  clear hv
  by_cases f1 : (ns.length : Int) + totNs ns ≤ left
  · have h1 : ¬ (left - (ns.length : Int) - (totNs ns : Int) < 0) := by omega
    by_cases f2 : (log.length : Int) + tot log ≤ left - (ns.length : Int) - (totNs ns : Int)
    · have h2 : ¬ (left - (ns.length : Int) - (totNs ns : Int) - (log.length : Int) - (tot log : Int) < 0) := by omega
      have F1 := hide f1
      have F2 := hide f2
      clear f1 f2
      go_enter Tryz.func6, Tryz.ntmps6
      go_wp2_with fail
      refine (szChain_fits ca cc ns left _ h0 F1.out ((HV.out.1.on S0.below).up S0.base)).mono ?_
      rintro e w1 ⟨rfl, hb1⟩
      have S1 := S0.on hb1
      have q1 := (S1.nth 0 rfl).six
      clear S0 q0
      go_wp2_with fail
      refine (szVerS_fits la lc log _ _ (by omega) F2.out ((HV.out.2.1.on S1.below).up S1.base)).mono ?_
      rintro e w2 ⟨rfl, hb2⟩
      have S2 := S1.on hb2
      have q2 := (S2.nth 0 rfl).six
      clear S1 q1
      go_wp2_with fail
      refine (szVerSS_not ga gc gs _ _ (by omega) (by have := F2.out; omega) HB.out.2.2.1 HB.out.2.2.2 (by have := HF.out; omega) ((HV.out.2.2.on S2.below).up S2.base)).mono ?_
      rintro e w3 ⟨rfl, hb3⟩
      have S3 := S2.on hb3
      clear S2 q2
      go_wp2
      go_ret
      exact ⟨rfl, S3.below⟩
    · have F1 := hide f1
      have F2 := hide f2
      clear f1 f2
      go_enter Tryz.func6, Tryz.ntmps6
      go_wp2_with fail
      refine (szChain_fits ca cc ns left _ h0 F1.out ((HV.out.1.on S0.below).up S0.base)).mono ?_
      rintro e w1 ⟨rfl, hb1⟩
      have S1 := S0.on hb1
      have q1 := (S1.nth 0 rfl).six
      clear S0 q0
      go_wp2_with fail
      refine (szVerS_not la lc log _ _ (by omega) (by have := F1.out; omega) HB.out.2.1.1 HB.out.2.1.2 (by have := F2.out; omega) ((HV.out.2.1.on S1.below).up S1.base)).mono ?_
      rintro e w2 ⟨rfl, hb2⟩
      have S2 := S1.on hb2
      clear S1 q1
      go_wp2
      go_ret
      exact ⟨rfl, S2.below⟩
  · have F1 := hide f1
    clear f1
    go_enter Tryz.func6, Tryz.ntmps6
    go_wp2_with fail
    refine (szChain_not ca cc ns left _ h0 h00 HB.out.1.1 HB.out.1.2 (by have := F1.out; omega) ((HV.out.1.on S0.below).up S0.base)).mono ?_
    rintro e w1 ⟨rfl, hb1⟩
    have S1 := S0.on hb1
    clear S0 q0
    go_wp2
    go_ret
    exact ⟨rfl, S1.below⟩

/-- The blocks of a slice of nodes. -/
def FootC (A : Option Addr) (ns : List Nd) (g : Nat) : Prop := ns ≠ [] ∧ ∃ G, A = some ⟨G, 0, none⟩ ∧ (g = G ∨ FootNs ns g)
theorem ResN.turnF {P : Nat → Prop} {w w' : World} {B U : Nat} {A : Option Addr} {ns : List Nd} (h : ResN w B U A ns) (ht : Turn P w w') (hp : ∀ g, FootC A ns g → ¬ P g) : ResN w' B U A ns := by
  by_cases h0 : ns = []
  · exact .inl h0
  · rcases h with h | ⟨G, cur, rfl, hO⟩
    · exact .inl h
    · exact .inr ⟨G, cur, rfl, hO.turned ht (hp G ⟨h0, G, rfl, .inl rfl⟩) (fun i l hi g hf => hp g ⟨h0, G, rfl, .inr ⟨i, l, hi, hf⟩⟩)⟩
theorem ResN.foot {w : World} {B U : Nat} {A : Option Addr} {ns : List Nd} (h : ResN w B U A ns) {g : Nat} (hf : FootC A ns g) : B ≤ g ∧ g < U := by
  obtain ⟨h0, G, rfl, hf⟩ := hf
  rcases h with h | ⟨G', cur, e, h2⟩
  · exact absurd h h0
  · injection e with e
    injection e with e
    subst e
    rcases hf with rfl | ⟨i, l, hi, hf⟩
    · exact ⟨h2.lo, h2.hi⟩
    · exact h2.range hi hf
theorem ResN.wide {w : World} {B B' U U' : Nat} {A : Option Addr} {ns : List Nd} (h : ResN w B U A ns) (hB : B' ≤ B) (hU : U ≤ U') : ResN w B' U' A ns := by
  rcases h with h | ⟨G, cur, h1, h2⟩
  · exact .inl h
  · exact .inr ⟨G, cur, h1, h2.blk, by have := h2.lo; omega, by have := h2.hi; omega, h2.size, h2.at', fun i n hi => ((h2.store i n hi).wide hU).low hB, fun i n hi => ((h2.wait i n hi).wide hU).low hB, h2.two, h2.apart⟩
theorem footC_mk {A : Option Addr} {k : Int} {ns : List Nd} {g : Nat} (h : FootC A (mkNs k ns) g) : FootC A ns g := by
  obtain ⟨h0, G, ha, hf⟩ := h
  refine ⟨fun e => h0 (by rw [e]; rfl), G, ha, ?_⟩
  rcases hf with h | ⟨i, l, hi, hf⟩
  · exact .inl h
  · rw [mkNs_at] at hi
    cases hx : ns[i]? with
    | none => rw [hx] at hi; cases hi
    | some x =>
      rw [hx] at hi
      simp only [Option.map_some] at hi
      injection hi with hi
      subst hi
      exact .inr ⟨i, x, hx, footN_mk hf⟩
/-- A place in memory of its own. -/
structure PRes (w : World) (B U : Nat) (p : Pl) : Prop where
  chain : ResN w B U p.ca p.ns
  log : ResS w B U p.la p.log
  got : ResL w B U p.ga p.gs
  cl : ∀ g, FootC p.ca p.ns g → ¬ FootS p.la p.log g
  cg : ∀ g, FootC p.ca p.ns g → ¬ FootL p.ga p.gs g
  lg : ∀ g, FootS p.la p.log g → ¬ FootL p.ga p.gs g
theorem PRes.turn {P : Nat → Prop} {w w' : World} {B U : Nat} {p : Pl} (h : PRes w B U p) (ht : Turn P w w') (hp : ∀ g, B ≤ g → g < U → ¬ P g) : PRes w' B U p :=
  ⟨h.chain.turn ht hp, h.log.turn ht hp, h.got.turnF ht (fun g hf => hp g (h.got.foot hf).1 (h.got.foot hf).2), h.cl, h.cg, h.lg⟩
theorem PRes.on {w w' : World} {B U : Nat} {p : Pl} (h : PRes w B U p) (hb : Below w.heap.size w w') : PRes w' B U p := h.turn (P := fun _ => False) (.below hb) (fun _ _ _ h => h)
theorem PRes.wide {w : World} {B B' U U' : Nat} {p : Pl} (h : PRes w B U p) (hB : B' ≤ B) (hU : U ≤ U') : PRes w B' U' p := ⟨h.chain.wide hB hU, (h.log.wide hU).low hB, h.got.wide hB hU, h.cl, h.cg, h.lg⟩
theorem PRes.alloc {w : World} {B U : Nat} {p : Pl} (h : PRes w B U p) (o : Obj) : PRes (w.alloc o) B U p := h.on (below_alloc1 w o)
/-- Two places say the same. -/
def LP (p q : Pl) : Prop := p.me = q.me ∧ p.ck = q.ck ∧ NL p.ns q.ns ∧ LL p.log q.log ∧ LLs p.gs q.gs ∧ p.fell = q.fell
/-- Sizes that memory holds. -/
def SmP (p : Pl) : Prop := (p.ns.length ≤ 1048576 ∧ SmN p.ns) ∧ (p.log.length ≤ 1048576 ∧ Small p.log) ∧ p.gs.length ≤ 1048576 ∧ SmL p.gs
/-- What toPlace leaves: a copy in memory of its own. -/
def CopiedPl (w : World) (p : Pl) (e : Ending) (w' : World) : Prop :=
  ∃ q : Pl, e = .returned (.agg (plCells q)) ∧ LP q p ∧ (q.lc = q.log.length ∧ ∀ l ∈ q.gs, l.c = l.vs.length) ∧ PRes w' w.heap.size w'.heap.size q ∧ Below w.heap.size w w'
set_option maxRecDepth 100000 in
set_option maxHeartbeats 4000000 in
theorem toPlace_own (p : Pl) (w : World) (hm : SmP p) (hv : Pg w w.heap.size p) :
    Calls Tryz.prog 8 #[.agg (plCells p)] w (CopiedPl w p) := by
  obtain ⟨⟨m1, m2⟩, ⟨m3, m4⟩, m5, m6⟩ := hm
  obtain ⟨t1, t2, t3⟩ := hv
  have M1 := hide m1
  have M2 := hide m2
  have M3 := hide m3
  have M4 := hide (small_tags m4)
  have M5 := hide m5
  have M6 := hide m6
  have T1 := hide t1
  have T2 := hide t2
  have T3 := hide t3
  clear m1 m2 m3 m4 m5 m6 t1 t2 t3
  obtain ⟨me, ck, ca, cc, ns, la, lc, log, ga, gc, gs, fell⟩ := p
  simp only at M1 M2 M3 M4 M5 M6 T1 T2 T3
  have I1 := (((Inv.start w).box 28 (plAt me ck ca ns.length cc la log.length lc ga gs.length gc fell)).box 36 (plAt 0 0 none 0 0 none 0 0 none 0 0 false)).box 36 (plAt me ck none 0 0 none 0 0 none 0 0 false)
  simp only [World.size_alloc] at I1
  have hd : ∀ {a b : Array Value} {T T' : TypeId}, ∀ x ∈ [(w.heap.size + 1, T, a), (w.heap.size, T', b)], x.1 ≠ w.heap.size + 1 + 1 := by
    intro a b T T' x hx
    simp only [List.mem_cons, List.not_mem_nil, or_false] at hx
    rcases hx with rfl | rfl <;> simp only <;> omega
  have q1 := (I1.nth 2 rfl).six
  go_enter Tryz.func8, Tryz.ntmps8
  go_wp2_with fail
  generalize hW1 : ((w.alloc (.cells (plAt me ck ca ns.length cc la log.length lc ga gs.length gc fell) 28)).alloc (.cells (plAt 0 0 none 0 0 none 0 0 none 0 0 false) 36)).alloc (.cells (plAt me ck none 0 0 none 0 0 none 0 0 false) 36) = W1 at I1 q1 ⊢
  have zW1 : W1.heap.size = w.heap.size + 3 := by rw [← hW1]; simp
  clear hW1
  with_reducible refine (toChain_own ca cc ns W1 M1.out M2.out ((T1.out.on I1.below).up I1.base)).mono ?_
  rintro e w2 ⟨g2, us2, cur2, rfl, hl2, R2, hb2⟩
  have HL2 := hide hl2
  have z2 := hb2.size
  have I2 := I1.on hb2
  have p2 := (I2.nth 0 rfl).six
  have I3 := I2.put0 (i := 2) hd (.slice (some ⟨g2, 0, none⟩) ns.length ns.length)
  simp only [List.setIfInBounds_toArray, List.set_cons_zero, List.set_cons_succ] at I3
  have R3 := hide (R2.turned ((Turn.refl (fun g => g = w.heap.size + 1 + 1) w2).set (p := ⟨w.heap.size + 1 + 1, 2, none⟩) rfl (.slice (some ⟨g2, 0, none⟩) ns.length ns.length)) (by have := R2.lo; omega) (fun i n hi g hf => by have := R2.range hi hf; omega))
  have q3 := (I3.nth 2 rfl).six
  have zW3 : (w2.setCell ⟨w.heap.size + 1 + 1, 2, none⟩ (.slice (some ⟨g2, 0, none⟩) ns.length ns.length)).heap.size = w2.heap.size := by simp [World.setCell]
  clear I1 I2 R2 hb2 hl2 q1
  go_wp2_with fail
  generalize w2.setCell ⟨w.heap.size + 1 + 1, 2, none⟩ (.slice (some ⟨g2, 0, none⟩) ns.length ns.length) = W3 at I3 R3 q3 zW3 ⊢
  clear p2
  with_reducible refine (toVerS_own la lc log W3 M3.out M4.out ((T2.out.on I3.below).up I3.base)).mono ?_
  rintro e w4 ⟨g4, us4, cur4, rfl, hl4, hk4, O4, hb4⟩
  have HL4 : Hid (LL us4 log) := ⟨hl4, hk4⟩
  have z4 := hb4.size
  have I4 := I3.on hb4
  have R4 := hide (R3.out.on hb4)
  have p4 := (I4.nth 0 rfl).six
  have I5 := I4.put0 (i := 3) hd (.slice (some ⟨g4, 0, none⟩) log.length log.length)
  simp only [List.setIfInBounds_toArray, List.set_cons_zero, List.set_cons_succ] at I5
  have T5 : Turn (fun g => g = w.heap.size + 1 + 1) w4 (w4.setCell ⟨w.heap.size + 1 + 1, 3, none⟩ (.slice (some ⟨g4, 0, none⟩) log.length log.length)) := (Turn.refl (fun g => g = w.heap.size + 1 + 1) w4).set (p := ⟨w.heap.size + 1 + 1, 3, none⟩) rfl _
  have R5 := hide (R4.out.turned T5 (by have := R4.out.lo; omega) (fun i n hi g hf => by have := R4.out.range hi hf; omega))
  have O5 := hide (O4.turned T5 (fun g h1 h2 e => by omega))
  have q5 := (I5.nth 2 rfl).six
  have zW5 : (w4.setCell ⟨w.heap.size + 1 + 1, 3, none⟩ (.slice (some ⟨g4, 0, none⟩) log.length log.length)).heap.size = w4.heap.size := by simp [World.setCell]
  clear I3 I4 R3 R4 O4 hb4 hl4 hk4 q3 T5
  go_wp2_with fail
  generalize w4.setCell ⟨w.heap.size + 1 + 1, 3, none⟩ (.slice (some ⟨g4, 0, none⟩) log.length log.length) = W5 at I5 R5 O5 q5 zW5 ⊢
  clear p4
  with_reducible refine (toVerSS_own ga gc gs W5 M5.out M6.out ((T3.out.on I5.below).up I5.base)).mono ?_
  rintro e w6 ⟨g6, us6, cur6, rfl, hl6, hc6, L6, hb6⟩
  have HL6 := hide hl6
  have HC6 := hide hc6
  have z6 := hb6.size
  have I6 := I5.on hb6
  have R6 := hide (R5.out.on hb6)
  have O6 := hide (O5.out.on hb6)
  have p6 := (I6.nth 0 rfl).six
  have q6 := (I6.nth 2 rfl).six
  have r6 := (I6.nth 1 rfl).six
  have HI6 := hide I6.below
  have HL66 := hide L6
  clear I5 R5 O5 hb6 hl6 hc6 L6 q5 I6
  go_wp2
  refine bodyPost_ret (v := .agg (plAt me ck (some ⟨g2, 0, none⟩) ns.length ns.length (some ⟨g4, 0, none⟩) log.length log.length (some ⟨g6, 0, none⟩) gs.length gs.length fell)) (by simp [results, Tryz.results8, go_sem, r6]) rfl ?_
  have P6 : PRes w6 W1.heap.size w6.heap.size ⟨me, ck, some ⟨g2, 0, none⟩, ns.length, us2, some ⟨g4, 0, none⟩, log.length, us4, some ⟨g6, 0, none⟩, gs.length, us6, fell⟩ := by
    have c1 : ResN w6 W1.heap.size w2.heap.size (some ⟨g2, 0, none⟩) us2 := .inr ⟨g2, cur2, rfl, R6.out⟩
    have c2 : ResS w6 W3.heap.size w4.heap.size (some ⟨g4, 0, none⟩) us4 := .inr ⟨g4, cur4, rfl, O6.out⟩
    have c3 : ResL w6 W5.heap.size w6.heap.size (some ⟨g6, 0, none⟩) us6 := .inr ⟨g6, cur6, rfl, HL66.out⟩
    exact ⟨c1.wide (Nat.le_refl _) (by omega), (c2.wide (by omega)).low (by omega), c3.wide (by omega) (Nat.le_refl _), fun g h1 h2 => by have := c1.foot h1; have := c2.foot h2; omega, fun g h1 h2 => by have := c1.foot h1; have := c3.foot h2; omega, fun g h1 h2 => by have := c2.foot h1; have := c3.foot h2; omega⟩
  refine ⟨⟨me, ck, some ⟨g2, 0, none⟩, ns.length, us2, some ⟨g4, 0, none⟩, log.length, us4, some ⟨g6, 0, none⟩, gs.length, us6, fell⟩, by simp only [plCells, HL2.out.1, HL4.out.1, HL6.out.1], ⟨rfl, rfl, HL2.out, HL4.out, HL6.out, rfl⟩, ⟨HL4.out.1.symm, HC6.out⟩, ?_, ?_⟩
  · have T7 := ((((((((Turn.refl (fun g => g = w.heap.size + 1 + 1 ∨ g = w.heap.size + 1) w6).set (p := ⟨w.heap.size + 1 + 1, 4, none⟩) (.inl rfl) (.slice (some ⟨g6, 0, none⟩) gs.length gs.length)).set (p := ⟨w.heap.size + 1 + 1, 5, none⟩) (.inl rfl) (.bool fell)).set (p := ⟨w.heap.size + 1, 0, none⟩) (.inr rfl) (.int .i64 me)).set (p := ⟨w.heap.size + 1, 1, none⟩) (.inr rfl) (.int .i64 ck)).set (p := ⟨w.heap.size + 1, 2, none⟩) (.inr rfl) (.slice (some ⟨g2, 0, none⟩) ns.length ns.length)).set (p := ⟨w.heap.size + 1, 3, none⟩) (.inr rfl) (.slice (some ⟨g4, 0, none⟩) log.length log.length)).set (p := ⟨w.heap.size + 1, 4, none⟩) (.inr rfl) (.slice (some ⟨g6, 0, none⟩) gs.length gs.length)).set (p := ⟨w.heap.size + 1, 5, none⟩) (.inr rfl) (.bool fell)
    exact (P6.turn T7 (fun g h1 h2 e => by omega)).wide (by omega) T7.size
  · exact below_set6 ((HI6.out.setCell (by simp; omega) _).setCell (by simp; omega) _) (by simp) _ _ _ _ _ _
end Go.Proofs.YtnaggcdhimcilaaGreat
/- How places are compared, marked, and the marks found again. Condition: what is said of each. -/
namespace Go.Proofs.YtnaggcdhimcilaaGreat
open Go.RowKit Go.Joins
attribute [local go_sem ↓] Go.wp_at_zero Go.wp_at_succ

/-- Places of few versions. -/
def FewP (p : Pl) : Prop := (p.ns.length ≤ 1048576 ∧ SmallN p.ns) ∧ (p.log.length ≤ 1048576 ∧ ∀ v ∈ p.log, v.ts.length ≤ 1048576) ∧ p.gs.length ≤ 1048576 ∧ FewL p.gs
/-- How many marks a place bears. -/
def wtP (p : Pl) : Int := wtNs p.ns + wts p.log + wtL p.gs
def mkP (k : Int) (p : Pl) : Pl := ⟨p.me, p.ck, p.ca, p.cc, mkNs k p.ns, p.la, p.lc, mkVs (k + wtNs p.ns) p.log, p.ga, p.gc, mkLs (k + wtNs p.ns + wts p.log) p.gs, p.fell⟩
set_option maxRecDepth 100000 in
set_option maxHeartbeats 4000000 in
theorem markChain_foot (B U : Nat) (A : Option Addr) (c : Nat) (ns : List Nd) (k : Int) (w : World) (hR : ResN w B U A ns) (hm : SmallN ns) (hn : ns.length ≤ 1048576) (hk0 : 1 ≤ k) (hk : k + wtNs ns ≤ 8388000) :
    Calls Tryz.prog 36 #[.agg #[.slice A ns.length c], .int .i64 k] w fun e w' => e = .returned (.int .i64 (k + wtNs ns)) ∧ ResN w' B U A (mkNs k ns) ∧ Turn (FootC A ns) w w' := by
  have L0 := below_alloc1 w (.cells #[.slice A ns.length c] 32)
  have HC : Hid (∀ W, Below w.heap.size w W → Calls Tryz.prog 80 #[.slice A ns.length c, .int .i64 k] W fun e w' => e = .returned (.int .i64 (k + wtNs ns)) ∧ ResN w' B U A (mkNs k ns) ∧ Turn (FootC A ns) w w') := fun W hW => by
    by_cases h0 : ns = []
    · subst h0
      exact (markNodeS_nil A c k W).mono fun e w' ⟨h1, h2⟩ => ⟨by rw [h1]; simp [wtNs], .inl rfl, by rw [← h2]; exact .below hW⟩
    · rcases hR with h | ⟨G, cur, rfl, hv⟩
      · exact absurd h h0
      · exact (markNodeS_foot B U G c ns cur k W (hv.on hW) hm hn hk0 hk).mono fun e w' ⟨h1, ⟨cur', h2⟩, h3⟩ => ⟨h1, .inr ⟨G, cur', rfl, h2⟩, Turn.trans (.below hW) ⟨h3.os, h3.tape, h3.output, h3.size, fun i hi hn => h3.block i hi (fun hf => hn ⟨h0, G, rfl, .inr hf⟩)⟩⟩
  clear hR hm hk
  go_enter Tryz.func36, Tryz.ntmps36
  go_wp2_with fail
  refine (HC.out _ L0).mono ?_
  rintro e w1 ⟨rfl, hb1, hT⟩
  have H1 := hide hb1
  have H2 := hide hT
  clear hb1 hT
  go_wp2
  go_ret
  exact ⟨rfl, H1.out, H2.out⟩
/-- What marking a place leaves. -/
def MarkedP (w : World) (B U : Nat) (p : Pl) (k : Int) (e : Ending) (w' : World) : Prop :=
  e = .returned (.int .i64 (k + wtP p)) ∧ PRes w' B U (mkP k p) ∧ Turn (fun g => (B ≤ g ∧ g < U)) w w'
theorem Turn.sub {P Q : Nat → Prop} {w w' : World} (h : Turn P w w') (hs : ∀ g, P g → Q g) : Turn Q w w' := ⟨h.os, h.tape, h.output, h.size, fun i hi hn => h.block i hi (fun e => hn (hs i e))⟩
theorem PRes.mk1 {w w' : World} {B U : Nat} {p : Pl} {k : Int} (h : PRes w B U p) (hr : ResN w' B U p.ca (mkNs k p.ns)) (ht : Turn (FootC p.ca p.ns) w w') : PRes w' B U ⟨p.me, p.ck, p.ca, p.cc, mkNs k p.ns, p.la, p.lc, p.log, p.ga, p.gc, p.gs, p.fell⟩ :=
  ⟨hr, h.log.turnF ht (fun g hf hc => h.cl g hc hf), h.got.turnF ht (fun g hf hc => h.cg g hc hf), fun g hf => h.cl g (footC_mk hf), fun g hf => h.cg g (footC_mk hf), h.lg⟩
theorem PRes.mk2 {w w' : World} {B U : Nat} {p : Pl} {k : Int} (h : PRes w B U p) (hr : ResS w' B U p.la (mkVs k p.log)) (ht : Turn (FootS p.la p.log) w w') : PRes w' B U ⟨p.me, p.ck, p.ca, p.cc, p.ns, p.la, p.lc, mkVs k p.log, p.ga, p.gc, p.gs, p.fell⟩ :=
  ⟨h.chain.turnF ht (fun g hf hc => h.cl g hf hc), hr, h.got.turnF ht (fun g hf hc => h.lg g hc hf), fun g hf hc => h.cl g hf (footS_mk hc), h.cg, fun g hf => h.lg g (footS_mk hf)⟩
theorem PRes.mk3 {w w' : World} {B U : Nat} {p : Pl} {k : Int} (h : PRes w B U p) (hr : ResL w' B U p.ga (mkLs k p.gs)) (ht : Turn (FootL p.ga p.gs) w w') : PRes w' B U ⟨p.me, p.ck, p.ca, p.cc, p.ns, p.la, p.lc, p.log, p.ga, p.gc, mkLs k p.gs, p.fell⟩ :=
  ⟨h.chain.turnF ht (fun g hf hc => h.cg g hf hc), h.log.turnF ht (fun g hf hc => h.lg g hf hc), hr, h.cl, fun g hf hc => h.cg g hf (footL_mk hc), fun g hf hc => h.lg g hf (footL_mk hc)⟩
set_option maxRecDepth 100000 in
set_option maxHeartbeats 4000000 in
theorem markPlace_own (B U : Nat) (p : Pl) (k : Int) (w : World) (hR : PRes w B U p) (hU : U ≤ w.heap.size) (hm : FewP p) (hk0 : 1 ≤ k) (hk : k + wtP p ≤ 8388000) :
    Calls Tryz.prog 11 #[.agg (plCells p), .int .i64 k] w (MarkedP w B U p k) := by
  have HM := hide hm
  have e1 := wtNs_pos p.ns
  have e2 := wts_pos p.log
  have e3 := wtL_pos p.gs
  have b1 : Hid (k + wtNs p.ns ≤ 8388000) := by unfold Hid wtP at *; omega
  have b2 : Hid (1 ≤ k + wtNs p.ns ∧ k + wtNs p.ns + wts p.log ≤ 8388000) := by unfold Hid wtP at *; omega
  have b3 : Hid (1 ≤ k + wtNs p.ns + wts p.log ∧ k + wtNs p.ns + wts p.log + wtL p.gs ≤ 8388000) := by unfold Hid wtP at *; omega
  have HE : Hid (k + wtNs p.ns + wts p.log + wtL p.gs = k + wtP p) := by unfold Hid wtP; omega
  obtain ⟨me, ck, ca, cc, ns, la, lc, log, ga, gc, gs, fell⟩ := p
  simp only at hR HM b1 b2 b3 HE
  have B0 := Blk.made w 36 (plAt me ck ca ns.length cc la log.length lc ga gs.length gc fell)
  have HR := hide (hR.alloc (.cells (plAt me ck ca ns.length cc la log.length lc ga gs.length gc fell) 36))
  have TW : Hid (Turn (fun g => (B ≤ g ∧ g < U)) w (w.alloc (.cells (plAt me ck ca ns.length cc la log.length lc ga gs.length gc fell) 36))) := .below (below_alloc1 _ _)
  have q0 := B0.six
  clear hR hm e1 e2 e3 hk
  go_enter Tryz.func11, Tryz.ntmps11
  go_wp2_with fail
  generalize w.alloc (.cells (plAt me ck ca ns.length cc la log.length lc ga gs.length gc fell) 36) = W at B0 HR TW q0 ⊢
  refine (markChain_foot B U ca cc ns k W HR.out.chain HM.out.1.2 HM.out.1.1 hk0 b1.out).mono ?_
  rintro e w1 ⟨rfl, R1, T1⟩
  have HR1 := hide (HR.out.mk1 R1 T1)
  have B1 := B0.turned T1 (fun h => by have := HR.out.chain.foot h; omega)
  have TW1 := hide (TW.out.trans (T1.sub (fun g h => HR.out.chain.foot h)))
  have q1 := B1.six
  clear HR R1 T1 B0 TW q0
  go_wp2_with fail
  refine (markSF_any B U la lc log (k + wtNs ns) w1 HR1.out.log HM.out.2.1.2 HM.out.2.1.1 b2.out.1 b2.out.2).mono ?_
  rintro e w2 ⟨rfl, R2, T2⟩
  have HR2 := hide (HR1.out.mk2 R2 T2)
  have B2 := B1.turned T2 (fun h => by have := HR1.out.log.foot h; omega)
  have TW2 := hide (TW1.out.trans (T2.sub (fun g h => HR1.out.log.foot h)))
  have q2 := B2.six
  clear HR1 R2 T2 B1 TW1 q1
  go_wp2_with fail
  refine (markResL_any B U ga gc gs (k + wtNs ns + wts log) w2 HR2.out.got HM.out.2.2.2 HM.out.2.2.1 b3.out.1 b3.out.2).mono ?_
  rintro e w3 ⟨rfl, R3, T3⟩
  have HR3 := hide (HR2.out.mk3 R3 T3)
  have TW3 := hide (TW2.out.trans (T3.sub (fun g h => HR2.out.got.foot h)))
  clear HR2 R3 T3 B2 TW2 q2
  go_wp2
  go_ret
  exact ⟨ret_int HE.out, HR3.out, TW3.out⟩
set_option maxRecDepth 100000 in
set_option maxHeartbeats 4000000 in
theorem heldPlace_own (B U : Nat) (p : Pl) (k : Int) (w : World) (hR : PRes w B U (mkP k p)) (hm : FewP p) (hk0 : 1 ≤ k) (hk : k + wtP p ≤ 8388000) :
    Calls Tryz.prog 12 #[.agg (plCells p), .int .i64 k] w fun e w' => e = .returned (.int .i64 (k + wtP p)) ∧ Below w.heap.size w w' := by
  have HM := hide hm
  have e1 := wtNs_pos p.ns
  have e2 := wts_pos p.log
  have e3 := wtL_pos p.gs
  have b1 : Hid (k + wtNs p.ns ≤ 8388000) := by unfold Hid wtP at *; omega
  have b2 : Hid (1 ≤ k + wtNs p.ns ∧ k + wtNs p.ns + wts p.log ≤ 8388000) := by unfold Hid wtP at *; omega
  have b3 : Hid (1 ≤ k + wtNs p.ns + wts p.log ∧ k + wtNs p.ns + wts p.log + wtL p.gs ≤ 8388000) := by unfold Hid wtP at *; omega
  have HE : Hid (k + wtNs p.ns + wts p.log + wtL p.gs = k + wtP p) := by unfold Hid wtP; omega
  have n1 : ¬ (k + wtNs p.ns < 0) := by omega
  have n2 : ¬ (k + wtNs p.ns + wts p.log < 0) := by omega
  have n3 : ¬ (k + wtNs p.ns + wts p.log + wtL p.gs < 0) := by omega
  obtain ⟨me, ck, ca, cc, ns, la, lc, log, ga, gc, gs, fell⟩ := p
  have HR := hide hR
  simp only at HM b1 b2 b3 HE n1 n2 n3
  have S0 := (Inv.start w).box 36 (plAt me ck ca ns.length cc la log.length lc ga gs.length gc fell)
  have q0 := (S0.nth 0 rfl).six
  clear hR hm e1 e2 e3 hk
  go_enter Tryz.func12, Tryz.ntmps12
  go_wp2_with fail
  refine (heldChain_any B U ca cc ns.length ns k _ (HR.out.on S0.below).chain rfl HM.out.1.2 HM.out.1.1 hk0 b1.out).mono ?_
  rintro e w1 ⟨rfl, hb1⟩
  have S1 := S0.on hb1
  have q1 := (S1.nth 0 rfl).six
  clear S0 q0
  go_wp2_with fail
  refine (heldSF_any B U la lc log (k + wtNs ns) w1 (HR.out.on S1.below).log HM.out.2.1.2 HM.out.2.1.1 b2.out.1 b2.out.2).mono ?_
  rintro e w2 ⟨rfl, hb2⟩
  have S2 := S1.on hb2
  have q2 := (S2.nth 0 rfl).six
  clear S1 q1
  go_wp2_with fail
  refine (heldResL_any B U ga gc gs (k + wtNs ns + wts log) w2 (HR.out.on S2.below).got HM.out.2.2.2 HM.out.2.2.1 b3.out.1 b3.out.2).mono ?_
  rintro e w3 ⟨rfl, hb3⟩
  have S3 := S2.on hb3
  clear S2 q2
  generalize k + wtNs ns + wts log + wtL gs = z at HE n3 ⊢
  go_wp2
  go_ret
  exact ⟨ret_int HE.out, S3.below⟩
set_option maxRecDepth 100000 in
set_option maxHeartbeats 4000000 in
theorem eqPlace_own (B U B' U' : Nat) (p q : Pl) (w : World) (hl : LP p q) (hm : FewP p) (hR : PRes w B U p) (hR' : PRes w B' U' q) :
    Calls Tryz.prog 10 #[.agg (plCells p), .agg (plCells q)] w fun e w' => e = .returned (.bool true) ∧ Below w.heap.size w w' := by
  have HM := hide hm
  have HR := hide hR
  have HR' := hide hR'
  obtain ⟨h1, h2, h3, h4, h5, h6⟩ := hl
  obtain ⟨me, ck, ca, cc, ns, la, lc, log, ga, gc, gs, fell⟩ := p
  obtain ⟨me', ck', ca', cc', ns', la', lc', log', ga', gc', gs', fell'⟩ := q
  simp only at h1 h2 h3 h4 h5 h6 HM
  subst h1 h2 h6
  have H3 := hide h3
  have H4 := hide h4
  have H5 := hide h5
  simp only [plCells, ← h3.1, ← h4.1]
  have S0 := ((Inv.start w).box 36 (plAt me ck ca ns.length cc la log.length lc ga gs.length gc fell)).box 36 (plAt me ck ca' ns.length cc' la' log.length lc' ga' gs'.length gc' fell)
  simp only [World.size_alloc] at S0
  have q0 := (S0.nth 0 rfl).six
  have p0 := (S0.nth 1 rfl).six
  have ef : (fell != fell) = false := by simp
  clear h3 h4 h5 hR hR' hm
  go_enter Tryz.func10, Tryz.ntmps10
  go_wp2_with fail
  refine (eqChain_same B U B' U' ca ca' cc cc' ns.length ns ns' _ HM.out.1.1 rfl H3.out.1.symm H3.out.2 HM.out.1.2 (HR.out.on S0.below).chain (HR'.out.on S0.below).chain).mono ?_
  rintro e w1 ⟨rfl, hb1⟩
  have S1 := S0.on hb1
  have q1 := (S1.nth 0 rfl).six
  have p1 := (S1.nth 1 rfl).six
  clear S0 q0 p0
  go_wp2_with fail
  refine (eqVerS_same la la' lc lc' log.length log log' w1 HM.out.2.1.1 rfl H4.out.1.symm H4.out.2 HM.out.2.1.2 (HR.out.on S1.below).log.vg (HR'.out.on S1.below).log.vg).mono ?_
  rintro e w2 ⟨rfl, hb2⟩
  have S2 := S1.on hb2
  have q2 := (S2.nth 0 rfl).six
  have p2 := (S2.nth 1 rfl).six
  clear S1 q1 p1
  go_wp2_with fail
  refine (eqVerSS_same ga ga' gc gc' gs gs' w2 HM.out.2.2.1 H5.out HM.out.2.2.2 (HR.out.on S2.below).got.lgs (HR'.out.on S2.below).got.lgs).mono ?_
  rintro e w3 ⟨rfl, hb3⟩
  have S3 := S2.on hb3
  have q3 := (S3.nth 0 rfl).six
  have p3 := (S3.nth 1 rfl).six
  clear S2 q2 p2
  go_wp2
  go_ret
  exact ⟨rfl, S3.below⟩
end Go.Proofs.YtnaggcdhimcilaaGreat
/- Rows of nodes as they grow; contracts of copies of nodes and chains, in the program. Condition: sizes that memory holds. -/
namespace Go.Proofs.YtnaggcdhimcilaaGreat
open Go.RowKit Go.Joins
attribute [local go_sem ↓] Go.wp_at_zero Go.wp_at_succ

/-- The cells of a row of nodes. -/
def cellsN (n : Nd) : List Value := [.slice n.sa n.ss.length n.sc, .slice n.wa n.ws.length n.wc]
def flatN (us : List Nd) : List Value := us.flatMap cellsN
theorem flatN_snoc (us : List Nd) (v : Nd) : flatN (us ++ [v]) = flatN us ++ cellsN v := by simp [flatN]
theorem flatN_at : ∀ (us : List Nd) (i : Nat) (v : Nd) (m : Nat), us[i]? = some v → m < 2 → (flatN us)[i * 2 + m]? = (cellsN v)[m]?
  | [], i, v, m, h, _ => by simp at h
  | x :: r, 0, v, m, h, hm => by
    simp at h
    subst h
    have e : flatN (x :: r) = cellsN x ++ flatN r := by simp [flatN]
    rw [e, Nat.zero_mul, Nat.zero_add, List.getElem?_append_left (by simp [cellsN]; omega)]
  | x :: r, i + 1, v, m, h, hm => by
    have e : flatN (x :: r) = cellsN x ++ flatN r := by simp [flatN]
    have h6 : (cellsN x).length = 2 := rfl
    rw [e, List.getElem?_append_right (by omega), h6]
    have : (i + 1) * 2 + m - 2 = i * 2 + m := by omega
    rw [this]
    exact flatN_at r i v m (by simpa using h) hm
theorem ndAtN_of {cur : Array Value} {us : List Nd} {n : Nat} (h : cur.toList.take n = flatN us) (i : Nat) (v : Nd) (hi : us[i]? = some v) : NdAt cur i v := by
  have key : ∀ m, m < 2 → cur[i * 2 + m]? = (cellsN v)[m]? := by
    intro m hm
    have h1 := flatN_at us i v m hi hm
    rw [← h] at h1
    have h2 : ∃ u, (cellsN v)[m]? = some u := ⟨_, List.getElem?_eq_getElem (by simp [cellsN]; omega)⟩
    obtain ⟨u, hu⟩ := h2
    rw [hu] at h1 ⊢
    obtain ⟨hl, _⟩ := List.getElem?_eq_some_iff.1 h1
    rw [List.length_take] at hl
    rw [List.getElem?_take_of_lt (by omega)] at h1
    simpa using h1
  exact ⟨key 0 (by omega), key 1 (by omega)⟩
theorem CRow.turned {P : Nat → Prop} {base : Nat} {wr w2 : World} {x : Value} {us : List V} (h : CRow base wr x us) (ht : Turn P wr w2) (hx : ∀ g, x.ownBlock = some g → ¬ P g) (hf : ∀ (i : Nat) v, us[i]? = some v → ∀ g, v.a = some ⟨g, 0, none⟩ → base ≤ g → v.ts ≠ [] → ¬ P g) : CRow base w2 x us := by
  refine ⟨⟨h.row.1, ?_⟩, fun i v hi => ((h.own i v hi).turned ht (fun g hg hb _ hne => hf i v hi g hg hb hne)).wide ht.size, h.apart, Nat.le_trans h.lo ht.size⟩
  rcases h.row.2 with h' | ⟨g, cap, cr, h1, h2, h3, h4⟩
  · exact .inl h'
  · exact .inr ⟨g, cap, cr, h1, h2, Blk.turned (show Blk wr g 96 cr from h3) ht (hx g (by rw [h1]; rfl)), h4⟩
/-- A row of versions is kept where nothing turns but blocks that hold neither versions nor tags. -/
theorem CRow.turnedT {P : Nat → Prop} {base : Nat} {wr w2 : World} {x : Value} {us : List V} (h : CRow base wr x us) (ht : Turn P wr w2) (hP : ∀ g, P g → ∃ T cs, Blk wr g T cs ∧ T ≠ 96 ∧ T ≠ 91) : CRow base w2 x us :=
  h.turned ht (fun g hg hp => by
    obtain ⟨cs, h1, _⟩ := h.typed g hg
    obtain ⟨T, cs', h2, h3, _⟩ := hP g hp
    exact h3 (blk_one h2 h1)) (fun i v hi g hg _ hne hp => by
    obtain ⟨T, cs', h2, _, h3⟩ := hP g hp
    rcases h.own i v hi with q | ⟨g', c', e1, _, _, q3, _⟩
    · exact absurd q hne
    · rw [hg] at e1
      injection e1 with e1
      injection e1 with e1
      subst e1
      exact h3 (blk_one h2 q3))
/-- The blocks of what waits at a node, that of its slice among them though nothing waits; the blocks of a node. -/
def FootW (n : Nd) (g : Nat) : Prop := FootS n.wa n.ws g ∨ (Value.slice n.wa n.ws.length n.wc).ownBlock = some g
def FootO (n : Nd) (g : Nat) : Prop := FootS n.sa n.ss g ∨ FootW n g
theorem footN_O {n : Nd} {g : Nat} (h : FootN n g) : FootO n g := by
  rcases h with h | h
  · exact .inl h
  · exact .inr (.inl h)
/-- A row of nodes as it grows. -/
structure GRow (base : Nat) (wr : World) (x : Value) (us : List Nd) : Prop where
  row : wr.ownsRow base 90 2 x us.length (flatN us)
  store : ∀ (i : Nat) n, us[i]? = some n → ResS wr base wr.heap.size n.sa n.ss
  wait : ∀ (i : Nat) n, us[i]? = some n → ResS wr base wr.heap.size n.wa n.ws
  two : ∀ (i : Nat) n, us[i]? = some n → ∀ g, FootS n.sa n.ss g → ¬ FootW n g
  apart : ∀ (i j : Nat) n n', i ≠ j → us[i]? = some n → us[j]? = some n' → ∀ g, FootO n g → ¬ FootO n' g
  lo : base ≤ wr.heap.size
  own : ∀ (i : Nat) n, us[i]? = some n → CRow base wr (.slice n.wa n.ws.length n.wc) n.ws
theorem GRow.start (base : Nat) (w : World) (h : base ≤ w.heap.size) : GRow base w (.slice none 0 0) [] :=
  ⟨World.ownsRow_nil _ _ _ _, fun i v h => by simp at h, fun i v h => by simp at h, fun i v h => by simp at h, fun i j v v' _ h => by simp at h, h, fun i v h => by simp at h⟩
theorem GRow.typed {base : Nat} {wr : World} {x : Value} {us : List Nd} (h : GRow base wr x us) (r : Nat) (hr : x.ownBlock = some r) : ∃ cs, Blk wr r 90 cs ∧ base ≤ r ∧ r < wr.heap.size := by
  rcases h.row.2 with ⟨rfl, _⟩ | ⟨g', cap, cr, rfl, hg', hb', _⟩
  · simp [Value.ownBlock] at hr
  · simp [Value.ownBlock] at hr
    subst hr
    exact ⟨cr, hb', hg', Blk.inside hb'⟩
theorem GRow.form {base : Nat} {wr : World} {x : Value} {us : List Nd} (h : GRow base wr x us) : ∃ A c, x = .slice A us.length c := by
  rcases h.row.2 with ⟨rfl, e⟩ | ⟨g', cap, cr, rfl, hg', hb', _⟩
  · exact ⟨none, 0, by rw [show us.length = 0 by omega]⟩
  · exact ⟨_, _, rfl⟩
theorem GRow.on {base : Nat} {wr w2 : World} {x : Value} {us : List Nd} (h : GRow base wr x us) (hb : Below wr.heap.size wr w2) : GRow base w2 x us :=
  ⟨World.ownsRow.kept h.row (grown_none (row := none) hb) (Classical.em _), fun i v hi => ((h.store i v hi).on hb).wide hb.size, fun i v hi => ((h.wait i v hi).on hb).wide hb.size, h.two, h.apart, Nat.le_trans h.lo hb.size, fun i v hi => (h.own i v hi).on hb⟩
theorem GRow.foot {base : Nat} {wr : World} {x : Value} {us : List Nd} (h : GRow base wr x us) {i : Nat} {n : Nd} (hi : us[i]? = some n) {g : Nat} (hf : FootO n g) : base ≤ g ∧ g < wr.heap.size := by
  rcases hf with hf | hf | hf
  · exact (h.store i n hi).foot hf
  · exact (h.wait i n hi).foot hf
  · obtain ⟨_, _, h1⟩ := (h.own i n hi).typed g hf
    exact h1
theorem GRow.aside {base : Nat} {wr : World} {x : Value} {us : List Nd} (h : GRow base wr x us) {p : Addr} (hp : p.block < base) (u : Value) : GRow base (wr.setCell p u) x us := by
  have hz : (wr.setCell p u).heap.size = wr.heap.size := by simp [World.setCell]
  have ht : Turn (fun g => g = p.block) wr (wr.setCell p u) := (Turn.refl (fun g => g = p.block) wr).set (p := p) rfl u
  refine ⟨ownsRow_setCell_below h.row hp u, fun i v hi => ?_, fun i v hi => ?_, h.two, h.apart, by rw [hz]; exact h.lo, fun i v hi => (h.own i v hi).turned ht (fun g hg e => by obtain ⟨_, _, h1, _⟩ := (h.own i v hi).typed g hg; omega) (fun _ _ _ g _ h1 _ e => by omega)⟩
  · rw [hz]
    exact (h.store i v hi).set (.inl hp) u
  · rw [hz]
    exact (h.wait i v hi).set (.inl hp) u
theorem GRow.down {base base' : Nat} {wr : World} {x : Value} {us : List Nd} (h : GRow base wr x us) (hb : base' ≤ base) : GRow base' wr x us :=
  ⟨⟨h.row.1, by
    rcases h.row.2 with h | ⟨g, cap, cr, h1, h2, h3⟩
    · exact .inl h
    · exact .inr ⟨g, cap, cr, h1, by omega, h3⟩⟩, fun i v hi => (h.store i v hi).low hb, fun i v hi => (h.wait i v hi).low hb, h.two, h.apart, by have := h.lo; omega, fun i v hi => (h.own i v hi).down hb⟩
/-- One node more. -/
theorem GRow.push {base : Nat} {wr w1 w2 : World} {x : Value} {us : List Nd} {v : Nd} {g cap : Nat} (h : GRow base wr x us) (hb : Below wr.heap.size wr w1) (hs : ResS w1 wr.heap.size w1.heap.size v.sa v.ss) (hw : ResS w1 wr.heap.size w1.heap.size v.wa v.ws) (h2 : ∀ g, FootS v.sa v.ss g → ¬ FootW v g) (hc : CRow wr.heap.size w1 (.slice v.wa v.ws.length v.wc) v.ws)
    (hown : w2.ownsRow base 90 2 (.slice (some ⟨g, 0, none⟩) (us.length + 1) cap) (us.length + 1) (flatN us ++ cellsN v)) (hg : w1.grownBy w2 x.ownBlock) : GRow base w2 (.slice (some ⟨g, 0, none⟩) (us.length + 1) cap) (us ++ [v]) := by
  have ht : Turn (fun g => x.ownBlock = some g) w1 w2 := .of hg (fun g e => e)
  have hk : ∀ {B U : Nat} {A : Option Addr} {l : List V}, ResS w1 B U A l → ResS w2 B U A l := fun hr => hr.turnF ht (fun y hf e => by
    obtain ⟨cs, h1, _⟩ := h.typed y e
    obtain ⟨T, cs', h3, h4, _⟩ := hr.typed hf
    exact h4 (blk_one h3 (h1.on hb)))
  have hq : ∀ {B : Nat} {y : Value} {l : List V}, CRow B w1 y l → CRow B w2 y l := fun hr => hr.turnedT ht (fun g e => by
    obtain ⟨cs, h1, _⟩ := h.typed g e
    exact ⟨_, cs, h1.on hb, node_ne_ver, node_ne_tag⟩)
  have zb := h.lo
  have z1 := hb.size
  have z2 := hg.size
  have hnew : ∀ g, FootO v g → wr.heap.size ≤ g := fun g hf => by
    rcases hf with hf | hf | hf
    · exact (hs.foot hf).1
    · exact (hw.foot hf).1
    · obtain ⟨_, _, h1, _⟩ := hc.typed g hf
      exact h1
  refine ⟨by simpa [flatN_snoc] using hown, fun i y hy => ?_, fun i y hy => ?_, fun i y hy => ?_, fun i j y y' hne hy hy' => ?_, by omega, fun i y hy => ?_⟩
  · rcases snoc_get rfl i y hy with ⟨rfl, rfl⟩ | ⟨_, hy⟩
    · exact ((hk hs).low zb).wide z2
    · exact (hk ((h.store i y hy).on hb)).wide (by omega)
  · rcases snoc_get rfl i y hy with ⟨rfl, rfl⟩ | ⟨_, hy⟩
    · exact ((hk hw).low zb).wide z2
    · exact (hk ((h.wait i y hy).on hb)).wide (by omega)
  · rcases snoc_get rfl i y hy with ⟨rfl, rfl⟩ | ⟨_, hy⟩
    · exact h2
    · exact h.two i y hy
  · rcases snoc_get rfl i y hy with ⟨e1, e2⟩ | ⟨e, hr⟩ <;> rcases snoc_get rfl j y' hy' with ⟨e3, e4⟩ | ⟨e', hr'⟩
    · omega
    · rw [e2]; exact fun g hf hf' => by have := hnew g hf; have := h.foot hr' hf'; omega
    · rw [e4]; exact fun g hf hf' => by have := hnew g hf'; have := h.foot hr hf; omega
    · exact h.apart i j y y' hne hr hr'
  · rcases snoc_get rfl i y hy with ⟨rfl, rfl⟩ | ⟨_, hy⟩
    · exact (hq hc).down zb
    · exact hq ((h.own i y hy).on hb)
theorem GRow.res {base : Nat} {wr : World} {A : Option Addr} {n c : Nat} {us : List Nd} (h : GRow base wr (.slice A n c) us) : n = us.length ∧ ResN wr base wr.heap.size A us := by
  rcases h.row.2 with ⟨e0, e⟩ | ⟨g', cap, cr, e0, hg', hb', hn, hm, hs, ht⟩
  · injection e0 with _ e1 _
    exact ⟨by omega, .inl (List.length_eq_zero_iff.1 (by omega))⟩
  · injection e0 with e0 e1 e2
    subst e0 e1 e2
    exact ⟨rfl, .inr ⟨g', cr, rfl, hb', hg', Blk.inside hb', by omega, ndAtN_of ht, h.store, h.wait, fun i n hi g h1 h2 => h.two i n hi g h1 (.inl h2), fun i j n n' hne hi hj g h1 h2 => h.apart i j n n' hne hi hj g (footN_O h1) (footN_O h2)⟩⟩
theorem CRow.resS {base : Nat} {wr : World} {x : Value} {us : List V} (h : CRow base wr x us) : ∃ A cap, x = .slice A us.length cap ∧ ResS wr base wr.heap.size A us := by
  rcases h.res with ⟨rfl, A, cap, rfl⟩ | ⟨G, cap, cur, rfl, hO⟩
  · exact ⟨A, cap, rfl, .inl rfl⟩
  · exact ⟨_, cap, rfl, .inr ⟨G, cur, rfl, hO⟩⟩
/-- What a copy of a node is. -/
def ClonedNd (w : World) (n : Nd) (e : Ending) (w' : World) : Prop :=
  ∃ n' : Nd, e = .returned (.agg #[.slice n'.sa n'.ss.length n'.sc, .slice n'.wa n'.ws.length n'.wc]) ∧ Nd.like n' n ∧ ResS w' w.heap.size w'.heap.size n'.sa n'.ss ∧ ResS w' w.heap.size w'.heap.size n'.wa n'.ws ∧ (∀ g, FootS n'.sa n'.ss g → ¬ FootW n' g) ∧ CRow w.heap.size w' (.slice n'.wa n'.ws.length n'.wc) n'.ws ∧ Below w.heap.size w w'
set_option maxRecDepth 100000 in
set_option maxHeartbeats 2000000 in
theorem nodeClone_any (n : Nd) (w : World) (hn : n.ss.length ≤ 1048576 ∧ n.ws.length ≤ 1048576) (hm : Small n.ss) (hm' : Small n.ws) (hv : Vg w w.heap.size n.sa n.ss) (hw : Vg w w.heap.size n.wa n.ws) :
    Calls Tryz.prog 89 #[.agg #[.slice n.sa n.ss.length n.sc, .slice n.wa n.ws.length n.wc]] w (ClonedNd w n) := by
  obtain ⟨sa, sc, ss, wa, wc, ws⟩ := n
  simp only at hn hm hm' hv hw ⊢
  have S0 := (Inv.start w).box 90 #[.slice sa ss.length sc, .slice wa ws.length wc]
  have S1 := S0.alloc (.cells #[.slice none 0 0, .slice none 0 0] 90)
  have V0 := Blk.made (w.alloc (.cells #[.slice sa ss.length sc, .slice wa ws.length wc] 90)) 90 #[.slice none 0 0, .slice none 0 0]
  simp only [World.size_alloc] at S1 V0
  have zz : w.heap.size + 2 ≤ ((w.alloc (.cells #[.slice sa ss.length sc, .slice wa ws.length wc] 90)).alloc (.cells #[.slice none 0 0, .slice none 0 0] 90)).heap.size := by simp
  have CV : Hid (∀ W, Below w.heap.size w W → Calls Tryz.prog 107 #[.slice sa ss.length sc] W (CopiedR W ss)) := fun W hW => copyVers_any sa sc ss W hn.1 (fun v hv => (hm v hv).1) ((hv.on hW).up hW.size)
  have CW : Hid (∀ W, Below w.heap.size w W → Calls Tryz.prog 107 #[.slice wa ws.length wc] W (CopiedR W ws)) := fun W hW => copyVers_any wa wc ws W hn.2 (fun v hv => (hm' v hv).1) ((hw.on hW).up hW.size)
  clear hm hm' hv hw S0
  go_enter Tryz.func89, Tryz.ntmps89
  go_wp2_with fail
  generalize (w.alloc (.cells #[.slice sa ss.length sc, .slice wa ws.length wc] 90)).alloc (.cells #[.slice none 0 0, .slice none 0 0] 90) = W0 at S1 V0 zz ⊢
  refine wp_region_noPanic ?_
  refine wp_region_held_drew (S := (fun w' => (w'.cell? ⟨w.heap.size, 0, none⟩ = some (.slice sa ss.length sc) ∧ w'.cell? ⟨w.heap.size, 1, none⟩ = some (.slice wa ws.length wc)) ∧ (∃ c0 c1 : Value, Blk w' (w.heap.size + 1) 90 #[c0, c1]) ∧ Inv w (w.heap.size + 1) [(w.heap.size, 90, #[.slice sa ss.length sc, .slice wa ws.length wc])] w')) (by kernel_rfl) (by exact ⟨⟨(S1.drew.nth 0 rfl).at 0, (S1.drew.nth 0 rfl).at 1⟩, ⟨_, _, V0.drew⟩, S1.drew⟩) (fun hHeld => ?_)
  refine mvR 0 (some 3) hHeld ?_
  refine mvR 1 (some 4) hHeld ?_
  refine mvR 2 (some 5) hHeld ?_
  refine mvR 5 (some 8) hHeld ?_
  refine mvR 6 (some 9) hHeld ?_
  refine take_one 3 (by kernel_rfl) rfl (fun K hK => ?_)
  go_simp
  ((with_reducible refine (CV.out _ hHeld.2.2.below).mono ?_); rintro e w1 ⟨x1, us, rfl, hul, hli, hcr, hb1⟩; obtain ⟨A1, cap1, rfl, hR1⟩ := hcr.resS; have HL1 : Hid (LL us ss) := ⟨hul, hli⟩; have HR1 := hide hR1; have z1 : W0.heap.size ≤ w1.heap.size := (by have := hb1.size; simpa using this); have V1 := hHeld.2.1; have I1 := hHeld.2.2.on hb1; clear hR1 hcr hul hli)
  try go_wp2_with fail
  refine hK.out _ _ (by exact ⟨⟨(I1.nth 0 rfl).at 0, (I1.nth 0 rfl).at 1⟩, (by obtain ⟨c0, c1, h⟩ := V1; exact ⟨c0, c1, h.on hb1⟩), I1⟩) (fun hHeld => ?_)
  clear hK K
  refine mvR 4 (some 7) hHeld ?_
  refine take_one 7 (by kernel_rfl) rfl (fun K hK => ?_)
  go_simp
  ((with_reducible refine (CW.out _ hHeld.2.2.below).mono ?_); rintro e w2 ⟨x2, vs, rfl, hvl, hlv, hcv, hb2⟩; obtain ⟨A2, cap2, rfl, hR2⟩ := hcv.resS; have HL2 : Hid (LL vs ws) := ⟨hvl, hlv⟩; have HR2 := hide hR2; have HCV := hide hcv; have HR3 := hide (HR1.out.on hb2); have z2 : w1.heap.size ≤ w2.heap.size := hb2.size; obtain ⟨c0, c1, V2⟩ := hHeld.2.1; have V3 := V2.on hb2; have q3 := V3.two; have I2 := hHeld.2.2.on hb2; clear hR2 hcv hvl hlv V2)
  try go_wp2_with fail
  refine hK.out _ _ (by exact ⟨⟨(I2.nth 0 rfl).at 0, (I2.nth 0 rfl).at 1⟩, ⟨_, _, V3⟩, I2⟩) (fun hHeld => ?_)
  clear hK K
  refine mvR 8 (some 11) hHeld ?_
  refine take_one 9 (by kernel_rfl) rfl (fun K hK => ?_)
  go_simp
  refine hK.out _ _ (by exact ⟨⟨((hHeld.2.2.set (p := ⟨w.heap.size + 1, 0, none⟩) (Nat.le_refl _) (by simp) _).set (p := ⟨w.heap.size + 1, 1, none⟩) (Nat.le_refl _) (by simp) _ |>.nth 0 rfl).at 0, ((hHeld.2.2.set (p := ⟨w.heap.size + 1, 0, none⟩) (Nat.le_refl _) (by simp) _).set (p := ⟨w.heap.size + 1, 1, none⟩) (Nat.le_refl _) (by simp) _ |>.nth 0 rfl).at 1⟩, ⟨_, _, (V3.put 0 _).put 1 _⟩, (hHeld.2.2.set (p := ⟨w.heap.size + 1, 0, none⟩) (Nat.le_refl _) (by simp) _).set (p := ⟨w.heap.size + 1, 1, none⟩) (Nat.le_refl _) (by simp) _⟩) (fun hHeld => ?_)
  clear hK K
  refine wpAnyH_done (by kernel_rfl) ?_ _
  refine NoPanic.normal ?_
  have HV3 := hide V3
  have V9 := (V3.put 0 (.slice A1 us.length cap1)).put 1 (.slice A2 vs.length cap2)
  simp only [List.setIfInBounds_toArray, List.set_cons_zero, List.set_cons_succ] at V9
  have q9 := V9.two
  have I9 := hHeld.2.2
  clear hHeld q3 V3
  go_wp2
  refine bodyPost_ret (v := .agg #[.slice A1 us.length cap1, .slice A2 vs.length cap2]) (by simp [results, Tryz.results89, go_sem, q9]) rfl ?_
  have T3 : Turn (fun g => g = w.heap.size + 1) w2 ((w2.setCell ⟨w.heap.size + 1, 0, none⟩ (.slice A1 us.length cap1)).setCell ⟨w.heap.size + 1, 1, none⟩ (.slice A2 vs.length cap2)) :=
    ((Turn.refl (fun g => g = w.heap.size + 1) w2).set (p := ⟨w.heap.size + 1, 0, none⟩) rfl _).set (p := ⟨w.heap.size + 1, 1, none⟩) rfl _
  have Z3 : ((w2.setCell ⟨w.heap.size + 1, 0, none⟩ (.slice A1 us.length cap1)).setCell ⟨w.heap.size + 1, 1, none⟩ (.slice A2 vs.length cap2)).heap.size = w2.heap.size := by simp [World.setCell]
  have r1 := HR3.out
  have r2 := HR2.out
  have e1 : W0.drew.heap.size = W0.heap.size := rfl
  refine ⟨⟨A1, cap1, us, A2, cap2, vs⟩, rfl, ⟨HL1.out.1, HL1.out.2, HL2.out.1, HL2.out.2⟩, ?_, ?_, fun g h1 h2 => ?_, ?_, I9.below⟩
  · rw [Z3]
    exact ((r1.turn T3 (fun g h1 h2 e => by omega)).low (by omega)).wide z2
  · rw [Z3]
    exact (r2.turn T3 (fun g h1 h2 e => by omega)).low (by omega)
  · have := r1.foot h1
    rcases h2 with h2 | h2
    · have := r2.foot h2
      omega
    · obtain ⟨_, _, h3, _⟩ := HCV.out.typed g h2
      omega
  · exact (HCV.out.turnedT T3 (fun g e => by subst e; exact ⟨_, _, HV3.out, node_ne_ver, node_ne_tag⟩)).down (by omega)
end Go.Proofs.YtnaggcdhimcilaaGreat
