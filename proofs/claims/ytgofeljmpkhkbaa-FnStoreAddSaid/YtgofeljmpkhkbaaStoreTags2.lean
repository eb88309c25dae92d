/- Contracts of StoreTags, of program and model, at every store. Condition: as many versions and tags as a law lets by. -/
import Derived.Test.YtgofeljmpkhkbaaStoreTags
import Derived.Test.YtgofeljmpkhkbaaPastRes
import Derived.Test.YtgofeljmpkhkbaaVerRows
namespace Go.Proofs.Ytgofeljmpkhkbaa
open Go.RowKit Go.Joins

theorem Res.turn {P : Nat → Prop} {w w' : World} {B U : Nat} {A : Option Addr} {rs : List (Int × Int)} (h : Res w B U A rs) (ht : Turn P w w') (hp : ∀ g, B ≤ g → g < U → ¬ P g) : Res w' B U A rs := by
  rcases h with h | ⟨g, T, cur, rfl, hB, hU, hb, hs, hc⟩
  · exact .inl h
  · exact .inr ⟨g, T, cur, rfl, hB, hU, hb.turned ht (hp g hB hU), hs, hc⟩
/-- What StoreTags answers. -/
def tagsR (vs : List V) : List (Int × Int) := if storeB vs = true then tagsL vs else []
theorem tagsR_len (vs : List V) : (tagsR vs).length ≤ 4 := by
  unfold tagsR
  split
  · rename_i h
    rw [tagsL_len]
    exact Nat.le_of_eq (storeB_four h)
  · simp
theorem tagsL_like {us vs : List V} (hl : us.length = vs.length) (h : Like us vs) : tagsL us = tagsL vs := by
  apply List.ext_getElem?
  intro i
  unfold tagsL
  rw [List.getElem?_map, List.getElem?_map]
  by_cases hi : i < us.length
  · have h1 := List.getElem?_eq_getElem hi
    have h2 := List.getElem?_eq_getElem (l := vs) (i := i) (by omega)
    obtain ⟨_, e1, e2, _⟩ := h i _ _ h1 h2
    rw [h1, h2]
    simp [e1, e2]
  · rw [List.getElem?_eq_none (by omega), List.getElem?_eq_none (by omega)]
theorem tagsR_like {us vs : List V} (hl : us.length = vs.length) (h : Like us vs) : tagsR us = tagsR vs := by
  unfold tagsR
  rw [storeB_like hl h, tagsL_like hl h]
theorem answer_joined {w : World} {rs : List (Int × Int)} {e : Ending} {w' : World} (h4 : rs.length = 4) (h : JoinedP w rs e w') : Answer w rs e w' := by
  obtain ⟨g, cap, T, cur, he, hg, hB, hsz, hcur, hb⟩ := h
  exact ⟨some ⟨g, 0, none⟩, cap, by rw [he, h4], Res.of hg hB.inside hB (by rw [h4]; exact hsz) hcur, hb⟩
theorem answer_empty {w : World} {rs : List (Int × Int)} {w' : World} (h : rs = []) (hb : Below w.heap.size w w') : Answer w rs (.returned (.agg #[.slice none 0 0])) w' := by
  subst h
  exact ⟨none, 0, rfl, .inl ⟨rfl, rfl⟩, hb⟩

set_option maxHeartbeats 2000000 in
theorem implStoreTags_any (a : Option Addr) (c : Nat) (vs : List V) (w : World) (hn : vs.length ≤ 1048576) (hm : Small vs) (hv : Vg w w.heap.size a vs) :
    Calls Try.prog 13 #[.agg #[.slice a vs.length c]] w (Answer w (tagsR vs)) := by
  cases ho : storeB vs
  · have hE : tagsR vs = [] := by unfold tagsR; rw [ho]; rfl
    have S0 := ((Inv.start w).box 25 #[.slice a vs.length c]).box 30 #[.slice none 0 0]
    simp only [World.size_alloc] at S0
    have HE := hide hE
    have HO := hide ho
    clear ho hE
    go_enter Try.func13, Try.ntmps13
    go_wp2_with fail
    refine (implStoreOk_any a c vs _ hn hm ((hv.on S0.below).up S0.base)).mono ?_
    rintro e w1 ⟨rfl, hb1⟩
    rw [HO.out]
    have S1 := S0.on hb1
    have q1 := (S1.nth 0 rfl).one
    clear S0 hm
    go_wp2
    refine bodyPost_ret (v := .agg #[.slice none 0 0]) (by simp [results, Try.results13, go_sem, q1]) rfl ?_
    exact answer_empty HE.out (S1.below.setCell (by simp) _)
  · have hE : tagsR vs = tagsL vs := by unfold tagsR; rw [ho]; rfl
    have h4 := storeB_four ho
    have C := implStoreTags_ok a c vs w ho hm hv
    rw [hE, h4]
    exact C.mono fun e w' h => answer_joined (by rw [tagsL_len]; exact h4) h
end Go.Proofs.Ytgofeljmpkhkbaa
