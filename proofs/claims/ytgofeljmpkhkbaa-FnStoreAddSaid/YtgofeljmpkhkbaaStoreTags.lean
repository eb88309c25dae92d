/- Contracts of the functions that gather a store's tags, in the program and in the model. Condition: a valid store. -/
import Derived.Test.YtgofeljmpkhkbaaStoreOk
import Derived.Test.YtgofeljmpkhkbaaPastJoin2
import Derived.Deep.AppendLies
namespace Go.Proofs.Ytgofeljmpkhkbaa
open Go.RowKit Go.Joins
attribute [local go_sem ↓] Go.wp_at_zero Go.wp_at_succ

/-- The tags of these versions. -/
def tagsL (vs : List V) : List (Int × Int) := vs.map fun v => (v.t, v.u)
theorem tagsL_at {vs : List V} {k : Nat} {v : V} (h : vs[k]? = some v) : (tagsL vs)[k]? = some (v.t, v.u) := by unfold tagsL; rw [List.getElem?_map, h]; rfl
theorem tagsL_len (vs : List V) : (tagsL vs).length = vs.length := by unfold tagsL; simp
theorem storeB_four {vs : List V} (h : storeB vs = true) : vs.length = 4 := by
  apply Classical.byContradiction
  intro hn
  rw [storeB_len hn] at h
  cases h

set_option maxRecDepth 100000 in
set_option maxHeartbeats 2000000 in
theorem implStoreTags_ok (a : Option Addr) (c : Nat) (vs : List V) (w : World) (hok : storeB vs = true) (hm : Small vs) (hv : Vg w w.heap.size a vs) :
    Calls Try.prog 13 #[.agg #[.slice a 4 c]] w (JoinedP w (tagsL vs)) := by
  have h4 := storeB_four hok
  have H4 := hide h4
  have S0 := ((Inv.start w).box 25 #[.slice a 4 c]).box 30 #[.slice none 0 0]
  simp only [World.size_alloc] at S0
  have C0 := implStoreOk_any a c vs _ (by omega) hm ((hv.on S0.below).up S0.base)
  rw [h4, hok] at C0
  have HM := hide hm
  clear hm h4 hok
  go_enter Try.func13, Try.ntmps13
  go_wp2_with fail
  refine C0.mono ?_
  rintro e w1 ⟨rfl, hb1⟩
  have S1 := (S0.on hb1).alloc (.cells zero8 69)
  have hr1 := (S0.on hb1).top
  have hz1 : w.heap.size + 1 + 1 ≤ w1.heap.size := (S0.on hb1).room
  have V0 := Blk.made w1 69 zero8
  have k0 := (S1.nth 1 rfl).one.1
  have k9 := ((S0.on hb1).nth 1 rfl).one.1
  have hlt0 : w.heap.size < w1.heap.size := by omega
  have S2 := (hr1.box 69 zero8)
  clear S0 C0 hb1 hr1
  go_wp2
  go_loopw [13] (fun i wr => ∃ (k : Nat) (cur : Array Value), k ≤ 4 ∧ i = .int .i64 (k : Int) ∧ Blk wr w1.heap.size 69 cur ∧ cur.size = 8 ∧ Hid (∀ j x, j < k → (tagsL vs)[j]? = some x → TagAt cur j x) ∧ Inv w (w.heap.size + 1 + 1) [(w.heap.size + 1, 30, #[.slice none 0 0]), (w.heap.size, 25, #[.slice a 4 c])] wr) (fun i _ => 4 - (intOf i).toNat)
  case atStart => exact ⟨0, _, Nat.zero_le _, rfl, V0, rfl, fun j x hj => absurd hj (by omega), S1⟩
  case round =>
    obtain ⟨k, cur, hk, rfl, hV, hsz, hcur, hI⟩ := hrel
    clear S1 S2 V0 k0 k9
    have hL := hI.below
    by_cases hlt : k < 4
    · rcases hv with e0 | ⟨b, off, rfl, hb, hx⟩
      · have := H4.out; subst e0; simp at this
      · have hkl : k < vs.length := by have := H4.out; omega
        obtain ⟨hS, -⟩ := hx k _ (List.getElem?_eq_getElem hkl)
        have HX := hide (List.getElem?_eq_getElem hkl)
        have hS' := hS.keep hb fun _ hp => hL.cell hp
        generalize vs[k] = v at hS' HX
        have HS := hide (tagAt_step (ts := tagsL vs) (show k * 2 + 1 < cur.size by omega) (tagsL_at HX.out) hcur.out)
        obtain ⟨vk, vt, vu, va, vc, vts, vs', vg⟩ := v
        simp only at hS' HS
        clear hS hx hcur
        have i1 : (0 : Int) ≤ (k : Int) := by omega
        have i2 : (k : Int) < 4 := by omega
        have V1 := hV.more (.cells (verC vk vt vu va vts.length vc vs' vg) 32)
        have hin := hV.inside
        have hs0 : k * 2 < cur.size := by omega
        have hs1 : k * 2 + 1 < cur.size := by omega
        have d0 : wr.cell? ⟨w1.heap.size, k * 2, none⟩ = some cur[k * 2] := by rw [hV.at]; exact Array.getElem?_eq_getElem hs0
        have d1 : wr.cell? ⟨w1.heap.size, k * 2 + 1, none⟩ = some cur[k * 2 + 1] := by rw [hV.at]; exact Array.getElem?_eq_getElem hs1
        have f0 := hV.loose (k * 2)
        have f1 := hV.loose (k * 2 + 1)
        have d0' : (wr.alloc (.cells (verC vk vt vu va vts.length vc vs' vg) 32)).cell? ⟨w1.heap.size, k * 2, none⟩ = some cur[k * 2] := by rw [V1.at]; exact Array.getElem?_eq_getElem hs0
        have d1' : (wr.alloc (.cells (verC vk vt vu va vts.length vc vs' vg) 32)).cell? ⟨w1.heap.size, k * 2 + 1, none⟩ = some cur[k * 2 + 1] := by rw [V1.at]; exact Array.getElem?_eq_getElem hs1
        have f0' := V1.loose (k * 2)
        have f1' := V1.loose (k * 2 + 1)
        go_wp2
        exact ⟨⟨k + 1, _, by omega, by go_num, ((hV.put _ _).put _ _).more _, by simp [hsz], HS, ((hI.set (by simp only; omega) (by simp only; omega) _).set (by simp only; omega) (by simp only; omega) _).alloc _⟩, by simp [intOf]; omega⟩
    · have hk4 : k = 4 := by omega
      subst hk4
      clear hlt
      have hl4 : (tagsL vs).length = 4 := (tagsL_len vs).trans H4.out
      obtain ⟨x0, x1, x2, x3, hts, hcu⟩ := cur4 hsz hl4 (fun j x hx => hcur.out j x (by have := (List.getElem?_eq_some_iff.1 hx).1; omega) hx)
      have HT := hide hts
      clear hcur hts hl4
      subst hcu
      have E1 := hV.eight
      go_wp2_with fail
      refine (past_any x0 x1 x2 x3 wr).mono ?_
      rintro e w5 ⟨g, cap, T, cu, rfl, hg, hB, hsz5, hcu5, hb5⟩
      have I5 := hI.on hb5
      have q1 := (I5.nth 0 rfl).one
      have hL5 := I5.below
      have hwr := hI.room
      have HC := hide hcu5
      clear hcu5 hI I5 E1 hV
      go_wp2
      refine bodyPost_ret (v := .agg #[.slice (some ⟨g, 0, none⟩) 4 cap]) (by simp [results, Try.results13, go_sem, q1]) rfl ?_
      exact ⟨g, cap, T, cu, rfl, by omega, hB.aside (by simp; omega) _, hsz5, by rw [HT.out]; exact HC.out, hL5.setCell (by simp) _⟩

/-- What the round of gathering tags holds. -/
theorem theld {w w' : World} {n b off k c : Nat} {v : V} {T : TypeId} {q : Nat × TypeId × Array Value} (Q : Hid (Six w b (off + k * 6) v)) (hb : b < w.heap.size)
    (h : Inv w n [q, (w.heap.size, T, #[.slice (some ⟨b, off, none⟩) 4 c])] w') :
    w'.cell? ⟨b, off + k * 6 + 1, none⟩ = some (.int .i64 v.t) ∧ w'.cell? ⟨b, off + k * 6 + 2, none⟩ = some (.int .i64 v.u) ∧ w'.cell? ⟨w.heap.size, 0, none⟩ = some (.slice (some ⟨b, off, none⟩) 4 c) ∧ Inv w n [q, (w.heap.size, T, #[.slice (some ⟨b, off, none⟩) 4 c])] w' :=
  ⟨(h.below.cell (p := ⟨b, off + k * 6 + 1, none⟩) hb).trans Q.out.2.1, (h.below.cell (p := ⟨b, off + k * 6 + 2, none⟩) hb).trans Q.out.2.2.1, (h.nth 1 rfl).at 0, h⟩
end Go.Proofs.Ytgofeljmpkhkbaa
