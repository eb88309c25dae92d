/- Copies of stores in memory of their own; how stores are marked and the marks found again. Condition: as many versions and tags as a law lets by. -/
import Derived.Test.YtkkjhfgjjakmfaaVerRows
namespace Go.Proofs.Ytkkjhfgjjakmfaa
open Go.RowKit Go.Joins

theorem Own1.low {w : World} {B B' U : Nat} {v : V} (h : Own1 w B U v) (hb : B' ≤ B) : Own1 w B' U v := by
  rcases h with h | ⟨g, cur, h1, h2, h3, h4, h5, h6⟩
  · exact .inl h
  · exact .inr ⟨g, cur, h1, by omega, h3, h4, h5, h6⟩
theorem ORow.low {w : World} {B B' U G : Nat} {vs : List V} {cur : Array Value} (h : ORow w B U G vs cur) (hb : B' ≤ B) : ORow w B' U G vs cur :=
  ⟨h.blk, Nat.le_trans hb h.lo, h.hi, h.size, h.at', fun i v hi => (h.own i v hi).low hb, h.apart⟩
/-- One version more in a row. -/
theorem ORow.snoc {w w' : World} {B U G k : Nat} {us : List V} {cur cur' : Array Value} {v : V} (h : ORow w B U G us cur) (hk : us.length = k) (hb : Blk w' G 52 cur') (hs : (k + 1) * 6 ≤ cur'.size)
    (hv : VerAt cur' k v) (ho : ∀ i x, i < k → VerAt cur i x → VerAt cur' i x) (hown : Own1 w' B U v) (hap : ∀ (i : Nat) x, us[i]? = some x → x.ts ≠ [] → x.a ≠ v.a)
    {P : Nat → Prop} (ht : Turn P w w') (hP : ∀ g, P g → g = G) : ORow w' B U G (us ++ [v]) cur' := by
  have hget : ∀ (i : Nat) x, (us ++ [v])[i]? = some x → (i = k ∧ x = v) ∨ (i < k ∧ us[i]? = some x) := by
    intro i x hx
    by_cases e : i < us.length
    · rw [List.getElem?_append_left e] at hx
      exact .inr ⟨by omega, hx⟩
    · rw [List.getElem?_append_right (by omega)] at hx
      have h0 : i - us.length = 0 := by
        have := (List.getElem?_eq_some_iff.1 hx).1
        simp at this
        omega
      rw [h0] at hx
      simp at hx
      exact .inl ⟨by omega, hx.symm⟩
  refine ⟨hb, h.lo, h.hi, by simp only [List.length_append, List.length_singleton]; omega, fun i x hx => ?_, fun i x hx => ?_, fun i j x y hne hx hy hn hn' => ?_⟩
  · rcases hget i x hx with ⟨rfl, rfl⟩ | ⟨e, hx⟩
    · exact hv
    · exact ho i x e (h.at' i x hx)
  · rcases hget i x hx with ⟨rfl, rfl⟩ | ⟨e, hx⟩
    · exact hown
    · exact (h.own i x hx).turned ht (fun g hg _ _ hne hp => h.apartG hx hne hg (hP g hp))
  · rcases hget i x hx with ⟨e1, e2⟩ | ⟨e, hq⟩ <;> rcases hget j y hy with ⟨e3, e4⟩ | ⟨e', hq'⟩
    · omega
    · rw [e2]; exact fun e => hap j y hq' hn' e.symm
    · rw [e4]; exact hap i x hq hn
    · exact h.apart i j x y hne hq hq' hn hn'
theorem orow_step {w : World} {B U G k : Nat} {us : List V} {cur : Array Value} {v : V} (h : ORow w B U G us cur) (hk : us.length = k) (ho : Own1 w B U v) (hap : ∀ (i : Nat) x, us[i]? = some x → x.ts ≠ [] → x.a ≠ v.a) (hs : k * 6 + 5 < cur.size) (hG : v.ts ≠ [] → v.a ≠ some ⟨G, 0, none⟩) :
    ORow ((((((w.setCell ⟨G, k * 6, none⟩ (.int .i64 v.k)).setCell ⟨G, k * 6 + 1, none⟩ (.int .i64 v.t)).setCell ⟨G, k * 6 + 2, none⟩ (.int .i64 v.u)).setCell ⟨G, k * 6 + 3, none⟩ (.slice v.a v.ts.length v.c)).setCell ⟨G, k * 6 + 4, none⟩ (.string v.s)).setCell ⟨G, k * 6 + 5, none⟩ (.bool v.g)) B U G (us ++ [v]) (put6 cur k v) := by
  have ht : Turn (fun g => g = G) w ((((((w.setCell ⟨G, k * 6, none⟩ (.int .i64 v.k)).setCell ⟨G, k * 6 + 1, none⟩ (.int .i64 v.t)).setCell ⟨G, k * 6 + 2, none⟩ (.int .i64 v.u)).setCell ⟨G, k * 6 + 3, none⟩ (.slice v.a v.ts.length v.c)).setCell ⟨G, k * 6 + 4, none⟩ (.string v.s)).setCell ⟨G, k * 6 + 5, none⟩ (.bool v.g)) :=
    ((((((Turn.refl (fun g => g = G) w).set (p := ⟨G, k * 6, none⟩) rfl _).set (p := ⟨G, k * 6 + 1, none⟩) rfl _).set (p := ⟨G, k * 6 + 2, none⟩) rfl _).set (p := ⟨G, k * 6 + 3, none⟩) rfl _).set (p := ⟨G, k * 6 + 4, none⟩) rfl _).set (p := ⟨G, k * 6 + 5, none⟩) rfl _
  refine h.snoc hk ((((((h.blk.put _ _).put _ _).put _ _).put _ _).put _ _).put _ _) (by simp; omega) (verAt_put hs) (fun i x hi hx => verAt_other (by omega) hx) (ho.turned ht (fun g hg _ _ hne e => hG hne (by rw [hg, e]))) hap ht (fun g e => e)

/-- What toVerS leaves: a copy in memory of its own. -/
def CopiedVO (w : World) (vs : List V) (e : Ending) (w' : World) : Prop :=
  ∃ (g : Nat) (us : List V) (cur : Array Value), e = .returned (.slice (some ⟨g, 0, none⟩) vs.length vs.length) ∧ us.length = vs.length ∧ Like us vs ∧ ORow w' w.heap.size w'.heap.size g us cur ∧ Below w.heap.size w w'
set_option maxRecDepth 100000 in
set_option maxHeartbeats 2000000 in
theorem toVerS_own (a : Option Addr) (c : Nat) (vs : List V) (w : World) (hn : vs.length ≤ 1048576) (hm : ∀ v ∈ vs, v.ts.length ≤ 1048576) (hv : Vg w w.heap.size a vs) :
    Calls Try.prog 58 #[.slice a vs.length c] w (CopiedVO w vs) := by
  obtain ⟨i0, hi0, hz0, hz1, hz2⟩ := info_parts ver_info
  have hmk : ∀ W : World, (Instr.makeSlice 46 (.int .i64 (vs.length : Int)) (.int .i64 (vs.length : Int))).run Try.prog W = .ok (.slice (some ⟨W.heap.size, 0, none⟩) vs.length vs.length) (W.alloc (.cells (madeCells (Value.agg (verC 0 0 0 none 0 0 ⟨#[]⟩ false)).cells (vs.length * 6)) 52)) := by
    intro W
    have hr := run_make (P := Try.prog) W 46 52 i0 _ Try.underlying46 hi0 hz0 .i64 .i64 (vs.length : Int) (vs.length : Int) (by omega) (by omega) (by rw [hz2]; omega) (by omega)
    rw [hz1] at hr
    simpa using hr
  have HM := hide hm
  clear hm
  generalize hn' : vs.length = n at *
  have HN := hide hn'
  clear hn'
  go_enter Try.func58, Try.ntmps58
  go_wp2
  clear hmk hi0 hz0 hz1 hz2
  have B0 := Blk.made w 52 (madeCells (verC 0 0 0 none 0 0 ⟨#[]⟩ false) (n * 6))
  have L0 := below_alloc1 w (.cells (madeCells (verC 0 0 0 none 0 0 ⟨#[]⟩ false) (n * 6)) 52)
  go_loopw [4] (fun i wr => ∃ (k : Nat) (cur : Array Value) (us : List V), k ≤ n ∧ i = .int .i64 (k : Int) ∧ Hid (us.length = k) ∧ ORow wr w.heap.size wr.heap.size w.heap.size us cur ∧ cur.size = n * 6 ∧ Hid (Like us vs) ∧ Below w.heap.size w wr) (fun i _ => n - (intOf i).toNat)
  case atStart => exact ⟨0, _, [], Nat.zero_le _, rfl, rfl, ⟨B0, Nat.le_refl _, by simp, by simp, fun i v hi => by simp at hi, fun i v hi => by simp at hi, fun i j v v' _ hi => by simp at hi⟩, size_madeCells _ _, fun i v v' hi => by simp at hi, L0⟩
  case round =>
    obtain ⟨k, cur, us, hk, rfl, hus, hR, hsz, hli, hL⟩ := hrel
    by_cases hlt : k < n
    · rcases hv with h0 | ⟨b, off, rfl, hb, hx⟩
      · have := HN.out; subst h0; simp at this; omega
      · have hkl : k < vs.length := by have := HN.out; omega
        obtain ⟨hS, hT⟩ := hx k _ (List.getElem?_eq_getElem hkl)
        have HX := hide (List.getElem?_eq_getElem hkl)
        generalize vs[k] = v at hS hT HX
        have HB := hide (HM.out v (List.mem_of_getElem? HX.out))
        obtain ⟨vk, vt, vu, va, vc, vts, vs', vg⟩ := v
        simp only at hS hT
        have hS' := hS.keep hb fun _ hp => hL.cell hp
        have HT := hide ((hT.on hL).up hL.size)
        clear hS hT hx
        go_wp2_with fail
        refine (toVer_any vk vt vu va vc vts vs' vg wr HB.out HT.out).mono ?_
        rintro e w1 ⟨g1, cur1, rfl, hg1, hB1, hsz1, hcur1, hb1⟩
        have hG : w.heap.size < wr.heap.size := hR.blk.inside
        have zw1 := hb1.size
        have in1 := hB1.inside
        have O1 : Own1 w1 w.heap.size w1.heap.size ⟨vk, vt, vu, some ⟨g1, 0, none⟩, vts.length, vts, vs', vg⟩ := .inr ⟨g1, cur1, rfl, by omega, in1, hB1, by simp only; omega, hcur1⟩
        have HR := hide (orow_step ((hR.on hb1).wide zw1) hus.out O1 (fun i x hx hne => by
          rcases hR.own i x hx with h0 | ⟨g', c', e1, q1, q2, _⟩
          · exact absurd h0 hne
          · rw [e1]; intro e; injection e with e; injection e with e; omega) (show k * 6 + 5 < cur.size by omega) (fun _ e => by injection e with e; injection e with e; omega))
        have HL := hide (like_step hli.out hus.out HX.out (v := ⟨vk, vt, vu, some ⟨g1, 0, none⟩, vts.length, vts, vs', vg⟩) ⟨rfl, rfl, rfl, rfl, rfl, rfl⟩)
        have B1 := hR.blk.on hb1
        have hs0 : k * 6 < cur.size := by omega
        have hs1 : k * 6 + 1 < cur.size := by omega
        have hs2 : k * 6 + 2 < cur.size := by omega
        have hs3 : k * 6 + 3 < cur.size := by omega
        have hs4 : k * 6 + 4 < cur.size := by omega
        have hs5 : k * 6 + 5 < cur.size := by omega
        have d0 : w1.cell? ⟨w.heap.size, k * 6, none⟩ = some cur[k * 6] := by rw [B1.at]; exact Array.getElem?_eq_getElem hs0
        have d1 : w1.cell? ⟨w.heap.size, k * 6 + 1, none⟩ = some cur[k * 6 + 1] := by rw [B1.at]; exact Array.getElem?_eq_getElem hs1
        have d2 : w1.cell? ⟨w.heap.size, k * 6 + 2, none⟩ = some cur[k * 6 + 2] := by rw [B1.at]; exact Array.getElem?_eq_getElem hs2
        have d3 : w1.cell? ⟨w.heap.size, k * 6 + 3, none⟩ = some cur[k * 6 + 3] := by rw [B1.at]; exact Array.getElem?_eq_getElem hs3
        have d4 : w1.cell? ⟨w.heap.size, k * 6 + 4, none⟩ = some cur[k * 6 + 4] := by rw [B1.at]; exact Array.getElem?_eq_getElem hs4
        have d5 : w1.cell? ⟨w.heap.size, k * 6 + 5, none⟩ = some cur[k * 6 + 5] := by rw [B1.at]; exact Array.getElem?_eq_getElem hs5
        have f0 := B1.loose (k * 6)
        have f1 := B1.loose (k * 6 + 1)
        have f2 := B1.loose (k * 6 + 2)
        have f3 := B1.loose (k * 6 + 3)
        have f4 := B1.loose (k * 6 + 4)
        have f5 := B1.loose (k * 6 + 5)
        have hL1 := hL.trans (hb1.mono hL.size)
        have HU : Hid ((us ++ [(⟨vk, vt, vu, some ⟨g1, 0, none⟩, vts.length, vts, vs', vg⟩ : V)]).length = k + 1) := by
          unfold Hid
          rw [List.length_append, hus.out]
          rfl
        clear hS' hR hli hus hcur1 O1 hL B1 hB1
        go_wp2
        exact ⟨⟨k + 1, _, _, by omega, by go_num, HU, by simpa [World.setCell] using HR.out, by simp [hsz], HL, (((((hL1.setCell (Nat.le_refl _) _).setCell (Nat.le_refl _) _).setCell (Nat.le_refl _) _).setCell (Nat.le_refl _) _).setCell (Nat.le_refl _) _).setCell (Nat.le_refl _) _⟩, by simp [intOf]; omega⟩
    · have hkn : k = n := by omega
      subst hkn
      clear hlt
      go_wp2
      go_ret
      have e := HN.out
      exact ⟨_, us, cur, by rw [e]; rfl, hus.out.trans e.symm, hli.out, hR, hL⟩

/-- What toStore leaves: a copy in memory of its own. -/
def CopiedSO (w : World) (vs : List V) (e : Ending) (w' : World) : Prop :=
  ∃ (g : Nat) (us : List V) (cur : Array Value), e = .returned (.agg #[.slice (some ⟨g, 0, none⟩) vs.length vs.length]) ∧ us.length = vs.length ∧ Like us vs ∧ ORow w' w.heap.size w'.heap.size g us cur ∧ Below w.heap.size w w'
set_option maxRecDepth 100000 in
set_option maxHeartbeats 1000000 in
theorem toStore_own (a : Option Addr) (c : Nat) (vs : List V) (w : World) (hn : vs.length ≤ 1048576) (hm : ∀ v ∈ vs, v.ts.length ≤ 1048576) (hv : Vg w w.heap.size a vs) :
    Calls Try.prog 22 #[.agg #[.slice a vs.length c]] w (CopiedSO w vs) := by
  have S0 := (((Inv.start w).box 37 #[.slice a vs.length c]).box 48 #[.slice none 0 0]).box 48 #[.slice none 0 0]
  simp only [World.size_alloc] at S0
  have T0 := hv.on S0.below
  go_enter Try.func22, Try.ntmps22
  go_wp2_with fail
  generalize (((w.alloc (.cells #[.slice a vs.length c] 37)).alloc (.cells #[.slice none 0 0] 48)).alloc (.cells #[.slice none 0 0] 48)) = W at S0 T0 ⊢
  refine (toVerS_own a c vs W hn hm (T0.up S0.base)).mono ?_
  rintro e w1 ⟨g, us, cur, rfl, hul, hli, hR, hb1⟩
  have S1 := S0.on hb1
  have hr := S0.room
  have hl := S1.below
  obtain ⟨k0, f0⟩ := (S1.nth 0 rfl).one
  obtain ⟨k1, f1⟩ := (S1.nth 1 rfl).one
  have hW := S0.base
  have HR := hide hR
  have HL := hide hli
  have HU := hide hul
  clear hR hli hul S0 S1 T0 hv hm
  go_wp2
  refine bodyPost_ret (v := .agg #[.slice (some ⟨g, 0, none⟩) vs.length vs.length]) (by simp [results, Try.results22, go_sem, k1]) rfl ?_
  have HT := (((Turn.refl (fun i => i < W.heap.size) w1).set (p := ⟨w.heap.size + 1 + 1, 0, none⟩) (by simp only; omega) (.slice (some ⟨g, 0, none⟩) vs.length vs.length)).set (p := ⟨w.heap.size + 1, 0, none⟩) (by simp only; omega) (.slice (some ⟨g, 0, none⟩) vs.length vs.length))
  exact ⟨g, us, cur, rfl, HU.out, HL.out, by simpa [World.setCell] using (HR.out.turned HT (fun i h1 h2 h3 => by omega)).low hW, (hl.setCell (by simp; omega) _).setCell (by simp) _⟩

set_option maxHeartbeats 1000000 in
theorem markStore_any (B U G c : Nat) (vs : List V) (cur : Array Value) (k : Int) (w : World) (hR : ORow w B U G vs cur) (hm : ∀ v ∈ vs, v.ts.length ≤ 1048576) (hn : vs.length ≤ 1048576) (hk0 : 1 ≤ k) (hk : k + wts vs ≤ 8388000) :
    Calls Try.prog 27 #[.agg #[.slice (some ⟨G, 0, none⟩) vs.length c], .int .i64 k] w (MarkedVR w B U G vs k) := by
  have L0 := below_alloc1 w (.cells #[.slice (some ⟨G, 0, none⟩) vs.length c] 48)
  have R0 := hR.on L0
  go_enter Try.func27, Try.ntmps27
  go_wp2_with fail
  refine (markVerS_any B U G c vs cur k _ R0 hm hn hk0 hk).mono ?_
  rintro e w1 ⟨rfl, hM, hT⟩
  have HM := hide hM
  have HT := hide ((Turn.below (P := fun g => B ≤ g ∧ g < U) L0).trans hT)
  clear hM hT R0 L0 hR hm
  go_wp2
  go_ret
  exact ⟨rfl, HM.out, HT.out⟩
set_option maxHeartbeats 1000000 in
theorem heldStore_any (B U G c : Nat) (vs : List V) (cur : Array Value) (k : Int) (w : World) (hR : ORow w B U G (mkVs k vs) cur) (hm : ∀ v ∈ vs, v.ts.length ≤ 1048576) (hn : vs.length ≤ 1048576) (hk0 : 1 ≤ k) (hk : k + wts vs ≤ 8388000) :
    Calls Try.prog 29 #[.agg #[.slice (some ⟨G, 0, none⟩) vs.length c], .int .i64 k] w fun e w' => e = .returned (.int .i64 (k + wts vs)) ∧ Below w.heap.size w w' := by
  have L0 := below_alloc1 w (.cells #[.slice (some ⟨G, 0, none⟩) vs.length c] 48)
  have R0 := hR.on L0
  have hps := wts_pos vs
  have hp : ¬ (k + wts vs < 0) := by omega
  go_enter Try.func29, Try.ntmps29
  go_wp2_with fail
  refine (heldVerS_any B U G c vs cur k _ R0 hm hn hk0 hk).mono ?_
  rintro e w1 ⟨rfl, hb⟩
  have HL := hide (L0.trans (hb.mono L0.size))
  clear R0 L0 hR hm hb
  go_wp2
  go_ret
  exact ⟨rfl, HL.out⟩
end Go.Proofs.Ytkkjhfgjjakmfaa
