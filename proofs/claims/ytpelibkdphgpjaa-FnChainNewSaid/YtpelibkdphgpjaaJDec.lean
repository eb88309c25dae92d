/- Contract of the draw of a version. Condition: as in Draw. -/
import Derived.Test.YtpelibkdphgpjaaJDrawVers
import Derived.Test.YtpelibkdphgpjaaJTks
import Derived.Test.YtpelibkdphgpjaaJTags
import Derived.Laws.IdiomStrings
import Derived.Laws.BitsAllLaws
namespace Go.Proofs.Ytpelibkdphgpjaa
open Go.RowKit Go.Joins
attribute [local go_sem ↓] Go.wp_at_zero Go.wp_at_succ

/-- What the draw of a version holds between its steps: its result's box, its own box, its tags, the reader. -/
structure DV (w : World) (g : Nat) (ra : Option Addr) (len cap mm pb gb : Nat) (k t u : Int) (s : ByteArray) (b : Bool) (ts : List (Int × Int)) (wr : World) : Prop where
  res : Blk wr w.heap.size 55 (verC 0 0 0 none 0 0 ⟨#[]⟩ false)
  box : Blk wr pb 55 (verC k t u (some ⟨gb, 0, none⟩) 4 4 s b)
  tags : Fours wr gb ts
  grown : w.grownBy wr (some g)
  rd : Rd wr g ra len cap mm
section
variable {w wr w2 : World} {g len cap mm pb gb : Nat} {ra : Option Addr} {ts : List (Int × Int)} {k t u : Int} {s : ByteArray} {b : Bool}
theorem DV.kept (h : DV w g ra len cap mm pb gb k t u s b ts wr) (hgw : g < w.heap.size) (hp : w.heap.size < pb) (hb : w.heap.size < gb) (hg : wr.grownBy w2 (some g)) {mm' : Nat} (hr : Rd w2 g ra len cap mm') : DV w g ra len cap mm' pb gb k t u s b ts w2 :=
  ⟨h.res.kept hg (by intro e; injection e; omega), h.box.kept hg (by intro e; injection e; omega), h.tags.kept hg (by intro e; injection e; omega), h.grown.trans hg, hr⟩
theorem DV.drew (h : DV w g ra len cap mm pb gb k t u s b ts wr) (hgw : g < w.heap.size) (hp : w.heap.size < pb) (hb : w.heap.size < gb) : DV w g ra len cap mm pb gb k t u s b ts wr.drew :=
  h.kept hgw hp hb (grown_none (Below.refl _ _).drew) (h.rd.on (Below.refl _ _).drew)
theorem DV.put (h : DV w g ra len cap mm pb gb k t u s b ts wr) (hgw : g < w.heap.size) (hby : Bytes w g ra len) (hb : w.heap.size < gb) (hne : pb ≠ gb) {i : Nat} (hk : i < 4) (x p : Int) : DV w g ra len cap mm pb gb k t u s b (ts.set i (x, p)) ((wr.setCell ⟨gb, i * 2, none⟩ (.int .i64 x)).setCell ⟨gb, i * 2 + 1, none⟩ (.int .i64 p)) := by
  have G1 := grown_set h.grown (p := ⟨gb, i * 2, none⟩) (by simp only; omega) (.int .i64 x)
  exact ⟨(h.res.aside (by simp only; omega) _).aside (by simp only; omega) _, (h.box.aside (by simp only; exact hne) _).aside (by simp only; exact hne) _, h.tags.put hk x p, grown_set G1 (p := ⟨gb, i * 2 + 1, none⟩) (by simp only; omega) _, (h.rd.set hby hgw h.grown (p := ⟨gb, i * 2, none⟩) (by simp only; omega) _).set hby hgw G1 (p := ⟨gb, i * 2 + 1, none⟩) (by simp only; omega) _⟩
/-- One cell of the box is turned. -/
theorem DV.turn (h : DV w g ra len cap mm pb gb k t u s b ts wr) (hgw : g < w.heap.size) (hby : Bytes w g ra len) (hp : w.heap.size < pb) (hne : pb ≠ gb) (i : Nat) (x : Value) {k' t' u' : Int} {s' : ByteArray} {b' : Bool}
    (e : (verC k t u (some ⟨gb, 0, none⟩) 4 4 s b).setIfInBounds i x = verC k' t' u' (some ⟨gb, 0, none⟩) 4 4 s' b') : DV w g ra len cap mm pb gb k' t' u' s' b' ts (wr.setCell ⟨pb, i, none⟩ x) :=
  ⟨h.res.aside (by simp only; omega) _, e ▸ h.box.put i x, h.tags.aside (by simp only; exact fun e => hne e.symm) _, grown_set h.grown (p := ⟨pb, i, none⟩) (by simp only; omega) _, h.rd.set hby hgw h.grown (p := ⟨pb, i, none⟩) (by simp only; omega) _⟩
end
theorem grown_set6 {w w' : World} {g : Nat} (h : w.grownBy w' (some g)) {b : Nat} (hp : w.heap.size ≤ b) (x0 x1 x2 x3 x4 x5 : Value) : w.grownBy ((((((w'.setCell ⟨b, 0, none⟩ x0).setCell ⟨b, 1, none⟩ x1).setCell ⟨b, 2, none⟩ x2).setCell ⟨b, 3, none⟩ x3).setCell ⟨b, 4, none⟩ x4).setCell ⟨b, 5, none⟩ x5) (some g) :=
  grown_set (grown_set (grown_set (grown_set (grown_set (grown_set h (p := ⟨b, 0, none⟩) hp _) (p := ⟨b, 1, none⟩) hp _) (p := ⟨b, 2, none⟩) hp _) (p := ⟨b, 3, none⟩) hp _) (p := ⟨b, 4, none⟩) hp _) (p := ⟨b, 5, none⟩) hp _
theorem Rd.set6 {w w' : World} {g : Nat} {a : Option Addr} {len cap m : Nat} (h : Rd w' g a len cap m) (hb : Bytes w g a len) (hg : g < w.heap.size) (hw : w.grownBy w' (some g)) {b : Nat} (hp : w.heap.size ≤ b) (x0 x1 x2 x3 x4 x5 : Value) :
    Rd ((((((w'.setCell ⟨b, 0, none⟩ x0).setCell ⟨b, 1, none⟩ x1).setCell ⟨b, 2, none⟩ x2).setCell ⟨b, 3, none⟩ x3).setCell ⟨b, 4, none⟩ x4).setCell ⟨b, 5, none⟩ x5) g a len cap m :=
  (((((h.set hb hg hw (p := ⟨b, 0, none⟩) hp _).set hb hg (grown_set hw (p := ⟨b, 0, none⟩) hp _) (p := ⟨b, 1, none⟩) hp _).set hb hg (grown_set (grown_set hw (p := ⟨b, 0, none⟩) hp _) (p := ⟨b, 1, none⟩) hp _) (p := ⟨b, 2, none⟩) hp _).set hb hg (grown_set (grown_set (grown_set hw (p := ⟨b, 0, none⟩) hp _) (p := ⟨b, 1, none⟩) hp _) (p := ⟨b, 2, none⟩) hp _) (p := ⟨b, 3, none⟩) hp _).set hb hg (grown_set (grown_set (grown_set (grown_set hw (p := ⟨b, 0, none⟩) hp _) (p := ⟨b, 1, none⟩) hp _) (p := ⟨b, 2, none⟩) hp _) (p := ⟨b, 3, none⟩) hp _) (p := ⟨b, 4, none⟩) hp _).set hb hg (grown_set (grown_set (grown_set (grown_set (grown_set hw (p := ⟨b, 0, none⟩) hp _) (p := ⟨b, 1, none⟩) hp _) (p := ⟨b, 2, none⟩) hp _) (p := ⟨b, 3, none⟩) hp _) (p := ⟨b, 4, none⟩) hp _) (p := ⟨b, 5, none⟩) hp _
theorem Fours.aside6 {w : World} {g b : Nat} {ts : List (Int × Int)} (h : Fours w g ts) (hg : g ≠ b) (x0 x1 x2 x3 x4 x5 : Value) : Fours ((((((w.setCell ⟨b, 0, none⟩ x0).setCell ⟨b, 1, none⟩ x1).setCell ⟨b, 2, none⟩ x2).setCell ⟨b, 3, none⟩ x3).setCell ⟨b, 4, none⟩ x4).setCell ⟨b, 5, none⟩ x5) g ts :=
  (((((h.aside (p := ⟨b, 0, none⟩) hg _).aside (p := ⟨b, 1, none⟩) hg _).aside (p := ⟨b, 2, none⟩) hg _).aside (p := ⟨b, 3, none⟩) hg _).aside (p := ⟨b, 4, none⟩) hg _).aside (p := ⟨b, 5, none⟩) hg _
theorem PastIn.aside1 {w : World} {lo g : Nat} {a : Option Addr} {ts : List (Int × Int)} (h : PastIn w lo g a ts) {p : Addr} (hp : p.block < lo) (u : Value) : PastIn (w.setCell p u) lo g a ts := by
  obtain ⟨b, off, ha, hl, hne, hb, hx⟩ := h
  refine ⟨b, off, ha, hl, hne, by simpa [World.setCell] using hb, fun i x hi => ?_⟩
  have hk : ∀ o : Nat, (w.setCell p u).cell? ⟨b, o, none⟩ = w.cell? ⟨b, o, none⟩ := fun o => World.cell?_of_block (w := w) (w' := w.setCell p u) (a := ⟨b, o, none⟩) (Below.heap_setCell w p u b (by omega))
  exact ⟨(hk _).trans (hx i x hi).1, (hk _).trans (hx i x hi).2⟩

theorem Fours.at1 {w : World} {b n : Nat} {ts : List (Int × Int)} {t p : Int} (h : Fours w b (ts.set n (t, p))) (hn : n < 4) : w.cell? ⟨b, n * 2, none⟩ = some (.int .i64 t) := by
  obtain ⟨cur, h1, h2, h3, h4⟩ := h
  have hl : n < ts.length := by rw [List.length_set] at h3; omega
  have := (h4 n (t, p) (List.getElem?_set_self hl)).1
  exact (h1.at _).trans this
/-- What the draw of a version leaves. -/
def DrawnV4 (w : World) (g : Nat) (ra : Option Addr) (len cap m d : Nat) (e : Ending) (w' : World) : Prop :=
  ∃ (k t u : Int) (gb : Nat) (ts : List (Int × Int)) (s : ByteArray) (b : Bool), e = .returned (.agg (verC k t u (some ⟨gb, 0, none⟩) 4 4 s b)) ∧ (0 ≤ k ∧ k ≤ 3) ∧ s.size ≤ 16 ∧ Fours w' gb ts ∧ w.heap.size ≤ gb ∧ w.grownBy w' (some g) ∧ Rd w' g ra len cap (m + d)
theorem DV.fin {w wr : World} {g len cap mm pb gb m d : Nat} {ra : Option Addr} {ts : List (Int × Int)} {k t u : Int} {s : ByteArray} {b : Bool} (h : DV w g ra len cap mm pb gb k t u s b ts wr) (hgw : g < w.heap.size) (hby : Bytes w g ra len) (hb : w.heap.size < gb) (hk : 0 ≤ k ∧ k ≤ 3) (hs : s.size ≤ 16) (hmm : mm ≤ m + d) (hm : m + d ≤ 1000000) (x0 x1 x2 x3 x4 x5 : Value) :
    DrawnV4 w g ra len cap m d (.returned (.agg (verC k t u (some ⟨gb, 0, none⟩) 4 4 s b))) ((((((wr.setCell ⟨w.heap.size, 0, none⟩ x0).setCell ⟨w.heap.size, 1, none⟩ x1).setCell ⟨w.heap.size, 2, none⟩ x2).setCell ⟨w.heap.size, 3, none⟩ x3).setCell ⟨w.heap.size, 4, none⟩ x4).setCell ⟨w.heap.size, 5, none⟩ x5) :=
  ⟨k, t, u, gb, ts, s, b, rfl, hk, hs, h.tags.aside6 (by omega) _ _ _ _ _ _, by omega, grown_set6 h.grown (Nat.le_refl _) _ _ _ _ _ _, (h.rd.set6 hby hgw h.grown (Nat.le_refl _) _ _ _ _ _ _).more _ hmm hm⟩

end Go.Proofs.Ytpelibkdphgpjaa
/- Contract of the draw of a version, valid or not. Condition: as in Draw. -/
namespace Go.Proofs.Ytpelibkdphgpjaa
open Go.RowKit Go.Joins
attribute [local go_sem ↓] Go.wp_at_zero Go.wp_at_succ

set_option maxHeartbeats 1000000 in
theorem oneN_any (w : World) (g : Nat) (a : Option Addr) (len cap m c n : Nat) (h : Rd w g a len cap m) (hm : m + 1 ≤ 1000000) (hne : c ≠ g) (hc : c < w.heap.size) (hn : 1 ≤ n) (hn' : n ≤ 1000)
    (hx : ∀ i : Nat, i < n → ∃ x : Int, w.cell? ⟨c, i, none⟩ = some (.int .i64 x)) :
    Calls Try.prog 42 #[.pointer (some ⟨g, 0, none⟩), .slice (some ⟨c, 0, none⟩) n n] w (Drawn w g a len cap m 1 (fun _ => True)) := by
  go_enter Try.func42, Try.ntmps42
  go_wp2_with fail
  refine (pick_any _ g a len cap m _ h (by omega) (by omega)).mono ?_
  rintro e w1 ⟨x, hxx, rfl, hg1, h1⟩
  have hxa := hxx.1
  have hxb := hxx.2 (by omega)
  obtain ⟨k, rfl⟩ := Int.eq_ofNat_of_zero_le hxa
  obtain ⟨s, hcell⟩ := hx k (by omega)
  have c0 : w1.cell? ⟨c, k, none⟩ = some (.int .i64 s) := (World.cell?_of_block (hg1.block c hc (fun e => hne (by injection e)))).trans hcell
  have HG := hide hg1
  have HR := hide h1
  clear hx hg1 h1 hcell h hxx
  go_wp2
  go_ret
  exact ⟨s, trivial, rfl, HG.out, HR.out⟩

/-- What the draw of a version, valid or not, leaves. -/
def DrawnV (w : World) (g : Nat) (ra : Option Addr) (len cap m d : Nat) (e : Ending) (w' : World) : Prop :=
  ∃ v : V, e = .returned (.agg (verC v.k v.t v.u v.a v.ts.length v.c v.s v.g)) ∧ v.ts.length ≤ 4 ∧ v.s.size ≤ 16 ∧ PastIn w' w.heap.size g v.a v.ts ∧ w.grownBy w' (some g) ∧ Rd w' g ra len cap (m + d)
theorem Fours.len {w : World} {b : Nat} {ts : List (Int × Int)} (h : Fours w b ts) : ts.length = 4 := by
  obtain ⟨_, _, _, e, _⟩ := h
  exact e
theorem DV.finA {w wr : World} {g len cap mm pb gb m d : Nat} {ra : Option Addr} {ts : List (Int × Int)} {k t u : Int} {s : ByteArray} {b : Bool} (h : DV w g ra len cap mm pb gb k t u s b ts wr) (hgw : g < w.heap.size) (hby : Bytes w g ra len) (hb : w.heap.size < gb) (hs : s.size ≤ 16) (hmm : mm ≤ m + d) (hm : m + d ≤ 1000000) (x0 x1 x2 x3 x4 x5 : Value) :
    DrawnV w g ra len cap m d (.returned (.agg (verC k t u (some ⟨gb, 0, none⟩) 4 4 s b))) ((((((wr.setCell ⟨w.heap.size, 0, none⟩ x0).setCell ⟨w.heap.size, 1, none⟩ x1).setCell ⟨w.heap.size, 2, none⟩ x2).setCell ⟨w.heap.size, 3, none⟩ x3).setCell ⟨w.heap.size, 4, none⟩ x4).setCell ⟨w.heap.size, 5, none⟩ x5) :=
  ⟨⟨k, t, u, some ⟨gb, 0, none⟩, 4, ts, s, b⟩, by simp only [h.tags.len], by simp only [h.tags.len]; omega, hs, (h.tags.aside6 (by omega) _ _ _ _ _ _).past (by omega) (by omega), grown_set6 h.grown (Nat.le_refl _) _ _ _ _ _ _, (h.rd.set6 hby hgw h.grown (Nat.le_refl _) _ _ _ _ _ _).more _ hmm hm⟩
/-- As before, but for the first tag, which is left out. -/
theorem DV.finB {w wr : World} {g len cap mm pb gb m d : Nat} {ra : Option Addr} {ts : List (Int × Int)} {k t u : Int} {s : ByteArray} {b : Bool} (h : DV w g ra len cap mm pb gb k t u s b ts wr) (hgw : g < w.heap.size) (hby : Bytes w g ra len) (hp : w.heap.size < pb) (hne : pb ≠ gb) (hb : w.heap.size < gb) (hs : s.size ≤ 16) (hmm : mm ≤ m + d) (hm : m + d ≤ 1000000) (x x0 x1 x2 x3 x4 x5 : Value) :
    DrawnV w g ra len cap m d (.returned (.agg (verC k t u (some ⟨gb, 2, none⟩) 3 3 s b))) (((((((wr.setCell ⟨pb, 3, none⟩ x).setCell ⟨w.heap.size, 0, none⟩ x0).setCell ⟨w.heap.size, 1, none⟩ x1).setCell ⟨w.heap.size, 2, none⟩ x2).setCell ⟨w.heap.size, 3, none⟩ x3).setCell ⟨w.heap.size, 4, none⟩ x4).setCell ⟨w.heap.size, 5, none⟩ x5) := by
  have hl : (ts.drop 1).length = 3 := by rw [List.length_drop, h.tags.len]
  have G1 := grown_set h.grown (p := ⟨pb, 3, none⟩) (by simp only; omega) x
  exact ⟨⟨k, t, u, some ⟨gb, 2, none⟩, 3, ts.drop 1, s, b⟩, by simp only [hl], by simp only [hl]; omega, hs, ((h.tags.aside (p := ⟨pb, 3, none⟩) (by simp only; exact fun e => hne e.symm) _).aside6 (by omega) _ _ _ _ _ _).tail (by omega) (by omega), grown_set6 G1 (Nat.le_refl _) _ _ _ _ _ _, ((h.rd.set hby hgw h.grown (p := ⟨pb, 3, none⟩) (by simp only; omega) _).set6 hby hgw G1 (Nat.le_refl _) _ _ _ _ _ _).more _ hmm hm⟩

end Go.Proofs.Ytpelibkdphgpjaa
/- Whether two slices of versions, two chains are the same, as the promises compare them: of such as are; and the draw of a number of nodes. Condition: what is said of each. -/
namespace Go.Proofs.Ytpelibkdphgpjaa
open Go.RowKit Go.Joins
attribute [local go_sem ↓] Go.wp_at_zero Go.wp_at_succ

set_option maxRecDepth 100000 in
set_option maxHeartbeats 2000000 in
theorem cfVers_same (a a' : Option Addr) (c c' n : Nat) (vs us : List V) (w : World) (hn : n ≤ 1048576) (hvn : vs.length = n) (hun : us.length = n)
    (hlike : Like vs us) (hm : ∀ v ∈ vs, v.ts.length ≤ 1048576) (hv : Vg w w.heap.size a vs) (hu : Vg w w.heap.size a' us) :
    Calls Try.prog 45 #[.slice a n c, .slice a' n c'] w fun e w' => e = .returned (.bool true) ∧ Below w.heap.size w w' := by
  have HN := hide hvn
  have HU := hide hun
  have HK := hide hlike
  have HM := hide hm
  clear hvn hun hlike hm
  go_enter Try.func45, Try.ntmps45
  go_wp2
  go_loopw [5] (fun i wr => ∃ k : Nat, k ≤ n ∧ i = .int .i64 (k : Int) ∧ Below w.heap.size w wr) (fun i _ => n - (intOf i).toNat)
  case atStart => exact ⟨0, Nat.zero_le _, rfl, Below.refl _ _⟩
  case round =>
    obtain ⟨k, hk, rfl, hL⟩ := hrel
    by_cases hlt : k < n
    · rcases hv with e0 | ⟨b, off, rfl, hb, hx⟩
      · have := HN.out; subst e0; simp at this; omega
      · rcases hu with e0 | ⟨b', off', rfl, hb', hx'⟩
        · have := HU.out; subst e0; simp at this; omega
        · have hkl : k < vs.length := by have := HN.out; omega
          have hkl' : k < us.length := by have := HU.out; omega
          obtain ⟨hS, hT⟩ := hx k _ (List.getElem?_eq_getElem hkl)
          obtain ⟨hS2, hT2⟩ := hx' k _ (List.getElem?_eq_getElem hkl')
          have HX := hide (List.getElem?_eq_getElem hkl)
          have HY := hide (List.getElem?_eq_getElem hkl')
          generalize vs[k] = v at hS hT HX
          generalize us[k] = v' at hS2 hT2 HY
          have hli := HK.out k v v' HX.out HY.out
          have HB := hide (HM.out v (List.mem_of_getElem? HX.out))
          obtain ⟨vk, vt, vu, va, vc, vts, vs', vg⟩ := v
          obtain ⟨uk, ut, uu, ua, uc, uts, us', ug⟩ := v'
          obtain ⟨e1, e2, e3, e4, e5, e6⟩ := hli
          simp only at e1 e2 e3 e4 e5 e6 hS hS2 hT hT2
          subst e1 e2 e3 e4 e5 e6
          have Q1 := hide hS
          have Q2 := hide hS2
          have T1 := hide hT
          have T2 := hide hT2
          clear hS hS2 hT hT2 hx hx'
          have i1 : (0 : Int) ≤ (k : Int) := by omega
          have i2 : (k : Int) < (n : Int) := by omega
          go_wp2_with fail
          refine wp_region_noPanic ?_
          refine wp_region_held_drew (S := (fun w' => Six w' b (off + k * 6) ⟨vk, vt, vu, va, vc, vts, vs', vg⟩ ∧ Six w' b' (off' + k * 6) ⟨vk, vt, vu, ua, uc, vts, vs', vg⟩ ∧ Below w.heap.size w w')) (by kernel_rfl) (by exact ⟨Q1.out.keep hb fun _ hp => hL.cell hp, Q2.out.keep hb' fun _ hp => hL.cell hp, hL.drew⟩) (fun hHeld => ?_)
          refine take_run 0 (some 17) (v := ?_) rfl rfl (by kernel_rfl) (by kernel_rfl) (by kernel_rfl) (fun _ _ _ h => h) (by rfl) ?_ hHeld ?_
          rotate_left
          · ((intro w hSw); (try dsimp only at hSw); go_simp <;> with_reducible rfl)
          simp only [Act.put, List.setIfInBounds_toArray, List.set_cons_zero, List.set_cons_succ]
          refine take_run 1 (some 18) (v := ?_) rfl rfl (by kernel_rfl) (by kernel_rfl) (by kernel_rfl) (fun _ _ _ h => h) (by rfl) ?_ hHeld ?_
          rotate_left
          · ((intro w hSw); (try dsimp only at hSw); go_simp <;> with_reducible rfl)
          simp only [Act.put, List.setIfInBounds_toArray, List.set_cons_zero, List.set_cons_succ]
          refine take_run 2 (some 19) (v := ?_) rfl rfl (by kernel_rfl) (by kernel_rfl) (by kernel_rfl) (fun _ _ _ h => h) (by rfl) ?_ hHeld ?_
          rotate_left
          · ((intro w hSw); (try dsimp only at hSw); go_simp <;> with_reducible rfl)
          simp only [Act.put, List.setIfInBounds_toArray, List.set_cons_zero, List.set_cons_succ]
          refine take_run 3 (some 20) (v := ?_) rfl rfl (by kernel_rfl) (by kernel_rfl) (by kernel_rfl) (fun _ _ _ h => h) (by rfl) ?_ hHeld ?_
          rotate_left
          · ((intro w hSw); (try dsimp only at hSw); go_simp <;> with_reducible rfl)
          simp only [Act.put, List.setIfInBounds_toArray, List.set_cons_zero, List.set_cons_succ]
          refine take_run 4 (some 21) (v := ?_) rfl rfl (by kernel_rfl) (by kernel_rfl) (by kernel_rfl) (fun _ _ _ h => h) (by rfl) ?_ hHeld ?_
          rotate_left
          · ((intro w hSw); (try dsimp only at hSw); go_simp <;> with_reducible rfl)
          simp only [Act.put, List.setIfInBounds_toArray, List.set_cons_zero, List.set_cons_succ]
          refine take_run 5 (some 22) (v := ?_) rfl rfl (by kernel_rfl) (by kernel_rfl) (by kernel_rfl) (fun _ _ _ h => h) (by rfl) ?_ hHeld ?_
          rotate_left
          · ((intro w hSw); (try dsimp only at hSw); go_simp <;> with_reducible rfl)
          simp only [Act.put, List.setIfInBounds_toArray, List.set_cons_zero, List.set_cons_succ]
          refine take_run 6 (some 23) (v := ?_) rfl rfl (by kernel_rfl) (by kernel_rfl) (by kernel_rfl) (fun _ _ _ h => h) (by rfl) ?_ hHeld ?_
          rotate_left
          · ((intro w hSw); (try dsimp only at hSw); go_simp <;> with_reducible rfl)
          simp only [Act.put, List.setIfInBounds_toArray, List.set_cons_zero, List.set_cons_succ]
          refine take_run 7 (some 24) (v := ?_) rfl rfl (by kernel_rfl) (by kernel_rfl) (by kernel_rfl) (fun _ _ _ h => h) (by rfl) ?_ hHeld ?_
          rotate_left
          · ((intro w hSw); (try dsimp only at hSw); go_simp <;> with_reducible rfl)
          simp only [Act.put, List.setIfInBounds_toArray, List.set_cons_zero, List.set_cons_succ]
          refine take_one 8 (by kernel_rfl) rfl (fun K hK => ?_)
          go_simp
          (refine (cfVer_same _ _ _ _ _ _ _ vts _ _ _ HB.out ((T1.out.on hHeld.2.2).up hHeld.2.2.size) ((T2.out.on hHeld.2.2).up hHeld.2.2.size)).mono ?_; rintro e w1 ⟨rfl, hb1⟩)
          try go_wp2_with fail
          refine hK.out _ _ (by exact ⟨Q1.out.keep hb fun _ hp => (hHeld.2.2.trans (hb1.mono hHeld.2.2.size)).cell hp, Q2.out.keep hb' fun _ hp => (hHeld.2.2.trans (hb1.mono hHeld.2.2.size)).cell hp, hHeld.2.2.trans (hb1.mono hHeld.2.2.size)⟩) (fun hHeld => ?_)
          clear hK K
          refine take_run 9 (some 26) (v := ?_) rfl rfl (by kernel_rfl) (by kernel_rfl) (by kernel_rfl) (fun _ _ _ h => h) (by rfl) ?_ hHeld ?_
          rotate_left
          · ((intro w hSw); (try dsimp only at hSw); go_simp <;> with_reducible rfl)
          simp only [Act.put, List.setIfInBounds_toArray, List.set_cons_zero, List.set_cons_succ]
          refine wpAnyH_done (by kernel_rfl) ?_ _
          refine NoPanic.normal ?_
          have hL2 := hHeld.2.2
          clear hHeld hL
          go_wp2
          exact ⟨⟨k + 1, by omega, by go_num, hL2⟩, by simp [intOf]; omega⟩
    · have hkn : k = n := by omega
      subst hkn
      clear hlt
      go_wp2
      go_ret
      exact ⟨rfl, hL⟩
set_option maxRecDepth 100000 in
set_option maxHeartbeats 4000000 in
theorem cfChain_same (B U B' U' : Nat) (A A' : Option Addr) (c c' n : Nat) (ns us : List Nd) (w : World) (hn : n ≤ 1048576) (hvn : ns.length = n) (hun : us.length = n)
    (hlike : ∀ (i : Nat) v v', ns[i]? = some v → us[i]? = some v' → Nd.like v v') (hm : SmallN ns) (hv : ResN w B U A ns) (hu : ResN w B' U' A' us) :
    Calls Try.prog 12 #[.agg #[.slice A n c], .agg #[.slice A' n c']] w fun e w' => e = .returned (.bool true) ∧ Below w.heap.size w w' := by
  have S0 := ((Inv.start w).box 26 #[.slice A n c]).box 26 #[.slice A' n c']
  simp only [World.size_alloc] at S0
  have HN := hide hvn
  have HU := hide hun
  have HK := hide hlike
  have HM := hide hm
  clear hvn hun hlike hm
  go_enter Try.func12, Try.ntmps12
  go_wp2
  go_loopw [5] (fun i wr => ∃ k : Nat, k ≤ n ∧ i = .int .i64 (k : Int) ∧ Inv w (w.heap.size + 1 + 1) [(w.heap.size + 1, 26, #[.slice A' n c']), (w.heap.size, 26, #[.slice A n c])] wr) (fun i _ => n - (intOf i).toNat)
  case atStart => exact ⟨0, Nat.zero_le _, rfl, S0⟩
  case round =>
    obtain ⟨k, hk, rfl, hI⟩ := hrel
    clear S0
    have q0 := (hI.nth 0 rfl).one.1
    have q1 := (hI.nth 1 rfl).one.1
    by_cases hlt : k < n
    · rcases hv with e0 | ⟨G, cur, rfl, hv⟩
      · have := HN.out; rw [e0] at this; simp at this; omega
      rcases hu with e0 | ⟨G', cur', rfl, hu⟩
      · have := HU.out; rw [e0] at this; simp at this; omega
      obtain ⟨v, hvv⟩ : ∃ v, ns[k]? = some v := ⟨_, List.getElem?_eq_getElem (by have := HN.out; omega)⟩
      obtain ⟨u, huu⟩ : ∃ u, us[k]? = some u := ⟨_, List.getElem?_eq_getElem (by have := HU.out; omega)⟩
      have HB := hide (HM.out v (List.mem_of_getElem? hvv))
      obtain ⟨e1, e2, e3, e4⟩ := HK.out k v u hvv huu
      have E1 := hide e1
      have E2 := hide e2
      have E3 := hide e3
      have E4 := hide e4
      have A1 := hv.at' k v hvv
      have A2 := hu.at' k u huu
      rw [NdAt, ← e1, ← e3] at A2
      have Q1 := hide A1
      have Q2 := hide A2
      have K1 := hide hv.blk
      have K2 := hide hu.blk
      have R1 := hide (hv.store k v hvv)
      have R2 := hide (hv.wait k v hvv)
      have R3 := hide (hu.store k u huu)
      have R4 := hide (hu.wait k u huu)
      clear A1 A2 hvv huu e1 e2 e3 e4
      have i1 : (0 : Int) ≤ (k : Int) := by omega
      have i2 : (k : Int) < (n : Int) := by omega
      have jh : ∀ w', Inv w (w.heap.size + 1 + 1) [(w.heap.size + 1, 26, #[.slice (some ⟨G', 0, none⟩) n c']), (w.heap.size, 26, #[.slice (some ⟨G, 0, none⟩) n c])] w' → (w'.cell? ⟨w.heap.size + 1, 0, none⟩ = some (.slice (some ⟨G', 0, none⟩) n c') ∧ w'.cell? ⟨w.heap.size, 0, none⟩ = some (.slice (some ⟨G, 0, none⟩) n c)) ∧ (w'.cell? ⟨G, k * 2, none⟩ = some (.slice v.sa v.ss.length v.sc) ∧ w'.cell? ⟨G, k * 2 + 1, none⟩ = some (.slice v.wa v.ws.length v.wc) ∧ w'.cell? ⟨G', k * 2, none⟩ = some (.slice u.sa v.ss.length u.sc) ∧ w'.cell? ⟨G', k * 2 + 1, none⟩ = some (.slice u.wa v.ws.length u.wc)) ∧ Inv w (w.heap.size + 1 + 1) [(w.heap.size + 1, 26, #[.slice (some ⟨G', 0, none⟩) n c']), (w.heap.size, 26, #[.slice (some ⟨G, 0, none⟩) n c])] w' := fun w' h =>
        ⟨⟨(h.nth 0 rfl).at 0, (h.nth 1 rfl).at 0⟩, ⟨((K1.out.on h.below).at _).trans Q1.out.1, ((K1.out.on h.below).at _).trans Q1.out.2, ((K2.out.on h.below).at _).trans Q2.out.1, ((K2.out.on h.below).at _).trans Q2.out.2⟩, h⟩
      go_wp2_with fail
      refine wp_region_noPanic ?_
      refine wp_region_held_drew (S := (fun w' => (w'.cell? ⟨w.heap.size + 1, 0, none⟩ = some (.slice (some ⟨G', 0, none⟩) n c') ∧ w'.cell? ⟨w.heap.size, 0, none⟩ = some (.slice (some ⟨G, 0, none⟩) n c)) ∧ (w'.cell? ⟨G, k * 2, none⟩ = some (.slice v.sa v.ss.length v.sc) ∧ w'.cell? ⟨G, k * 2 + 1, none⟩ = some (.slice v.wa v.ws.length v.wc) ∧ w'.cell? ⟨G', k * 2, none⟩ = some (.slice u.sa v.ss.length u.sc) ∧ w'.cell? ⟨G', k * 2 + 1, none⟩ = some (.slice u.wa v.ws.length u.wc)) ∧ Inv w (w.heap.size + 1 + 1) [(w.heap.size + 1, 26, #[.slice (some ⟨G', 0, none⟩) n c']), (w.heap.size, 26, #[.slice (some ⟨G, 0, none⟩) n c])] w')) (by kernel_rfl) (by exact jh _ hI.drew) (fun hHeld => ?_)
      refine take_run 0 (some 20) (v := ?_) rfl rfl (by kernel_rfl) (by kernel_rfl) (by kernel_rfl) (fun _ _ _ h => h) (by rfl) ?_ hHeld ?_
      rotate_left
      · ((intro w hSw); (try dsimp only at hSw); go_simp <;> with_reducible rfl)
      simp only [Act.put, List.setIfInBounds_toArray, List.set_cons_zero, List.set_cons_succ]
      refine take_run 1 (some 21) (v := ?_) rfl rfl (by kernel_rfl) (by kernel_rfl) (by kernel_rfl) (fun _ _ _ h => h) (by rfl) ?_ hHeld ?_
      rotate_left
      · ((intro w hSw); (try dsimp only at hSw); go_simp <;> with_reducible rfl)
      simp only [Act.put, List.setIfInBounds_toArray, List.set_cons_zero, List.set_cons_succ]
      refine take_run 2 (some 22) (v := ?_) rfl rfl (by kernel_rfl) (by kernel_rfl) (by kernel_rfl) (fun _ _ _ h => h) (by rfl) ?_ hHeld ?_
      rotate_left
      · ((intro w hSw); (try dsimp only at hSw); go_simp <;> with_reducible rfl)
      simp only [Act.put, List.setIfInBounds_toArray, List.set_cons_zero, List.set_cons_succ]
      refine take_run 3 (some 23) (v := ?_) rfl rfl (by kernel_rfl) (by kernel_rfl) (by kernel_rfl) (fun _ _ _ h => h) (by rfl) ?_ hHeld ?_
      rotate_left
      · ((intro w hSw); (try dsimp only at hSw); go_simp <;> with_reducible rfl)
      simp only [Act.put, List.setIfInBounds_toArray, List.set_cons_zero, List.set_cons_succ]
      refine take_run 4 (some 24) (v := ?_) rfl rfl (by kernel_rfl) (by kernel_rfl) (by kernel_rfl) (fun _ _ _ h => h) (by rfl) ?_ hHeld ?_
      rotate_left
      · ((intro w hSw); (try dsimp only at hSw); go_simp <;> with_reducible rfl)
      simp only [Act.put, List.setIfInBounds_toArray, List.set_cons_zero, List.set_cons_succ]
      refine take_run 5 (some 25) (v := ?_) rfl rfl (by kernel_rfl) (by kernel_rfl) (by kernel_rfl) (fun _ _ _ h => h) (by rfl) ?_ hHeld ?_
      rotate_left
      · ((intro w hSw); (try dsimp only at hSw); go_simp <;> with_reducible rfl)
      simp only [Act.put, List.setIfInBounds_toArray, List.set_cons_zero, List.set_cons_succ]
      refine take_run 6 (some 26) (v := ?_) rfl rfl (by kernel_rfl) (by kernel_rfl) (by kernel_rfl) (fun _ _ _ h => h) (by rfl) ?_ hHeld ?_
      rotate_left
      · ((intro w hSw); (try dsimp only at hSw); go_simp <;> with_reducible rfl)
      simp only [Act.put, List.setIfInBounds_toArray, List.set_cons_zero, List.set_cons_succ]
      refine take_run 7 (some 27) (v := ?_) rfl rfl (by kernel_rfl) (by kernel_rfl) (by kernel_rfl) (fun _ _ _ h => h) (by rfl) ?_ hHeld ?_
      rotate_left
      · ((intro w hSw); (try dsimp only at hSw); go_simp <;> with_reducible rfl)
      simp only [Act.put, List.setIfInBounds_toArray, List.set_cons_zero, List.set_cons_succ]
      refine take_run 8 (some 28) (v := ?_) rfl rfl (by kernel_rfl) (by kernel_rfl) (by kernel_rfl) (fun _ _ _ h => h) (by rfl) ?_ hHeld ?_
      rotate_left
      · ((intro w hSw); (try dsimp only at hSw); go_simp <;> with_reducible rfl)
      simp only [Act.put, List.setIfInBounds_toArray, List.set_cons_zero, List.set_cons_succ]
      refine take_run 9 (some 29) (v := ?_) rfl rfl (by kernel_rfl) (by kernel_rfl) (by kernel_rfl) (fun _ _ _ h => h) (by rfl) ?_ hHeld ?_
      rotate_left
      · ((intro w hSw); (try dsimp only at hSw); go_simp <;> with_reducible rfl)
      simp only [Act.put, List.setIfInBounds_toArray, List.set_cons_zero, List.set_cons_succ]
      refine take_run 10 (some 30) (v := ?_) rfl rfl (by kernel_rfl) (by kernel_rfl) (by kernel_rfl) (fun _ _ _ h => h) (by rfl) ?_ hHeld ?_
      rotate_left
      · ((intro w hSw); (try dsimp only at hSw); go_simp <;> with_reducible rfl)
      simp only [Act.put, List.setIfInBounds_toArray, List.set_cons_zero, List.set_cons_succ]
      refine take_run 11 (some 31) (v := ?_) rfl rfl (by kernel_rfl) (by kernel_rfl) (by kernel_rfl) (fun _ _ _ h => h) (by rfl) ?_ hHeld ?_
      rotate_left
      · ((intro w hSw); (try dsimp only at hSw); go_simp <;> with_reducible rfl)
      simp only [Act.put, List.setIfInBounds_toArray, List.set_cons_zero, List.set_cons_succ]
      refine take_one 12 (by kernel_rfl) rfl (fun K hK => ?_)
      go_simp
      (refine (cfStore_same v.sa u.sa v.sc u.sc v.ss.length v.ss u.ss _ HB.out.1 rfl E1.out.symm E2.out HB.out.2.2.1 (R1.out.on hHeld.2.2.below).vg (R3.out.on hHeld.2.2.below).vg).mono ?_; rintro e w1 ⟨rfl, hb1⟩)
      try go_wp2_with fail
      refine hK.out _ _ (by exact jh _ (hHeld.2.2.on hb1)) (fun hHeld => ?_)
      clear hK K
      refine take_run 13 (some 33) (v := ?_) rfl rfl (by kernel_rfl) (by kernel_rfl) (by kernel_rfl) (fun _ _ _ h => h) (by rfl) ?_ hHeld ?_
      rotate_left
      · ((intro w hSw); (try dsimp only at hSw); go_simp <;> with_reducible rfl)
      simp only [Act.put, List.setIfInBounds_toArray, List.set_cons_zero, List.set_cons_succ]
      refine take_run 14 (some 34) (v := ?_) rfl rfl (by kernel_rfl) (by kernel_rfl) (by kernel_rfl) (fun _ _ _ h => h) (by rfl) ?_ hHeld ?_
      rotate_left
      · ((intro w hSw); (try dsimp only at hSw); go_simp <;> with_reducible rfl)
      simp only [Act.put, List.setIfInBounds_toArray, List.set_cons_zero, List.set_cons_succ]
      refine take_run 15 (some 35) (v := ?_) rfl rfl (by kernel_rfl) (by kernel_rfl) (by kernel_rfl) (fun _ _ _ h => h) (by rfl) ?_ hHeld ?_
      rotate_left
      · ((intro w hSw); (try dsimp only at hSw); go_simp <;> with_reducible rfl)
      simp only [Act.put, List.setIfInBounds_toArray, List.set_cons_zero, List.set_cons_succ]
      refine take_run 16 (some 36) (v := ?_) rfl rfl (by kernel_rfl) (by kernel_rfl) (by kernel_rfl) (fun _ _ _ h => h) (by rfl) ?_ hHeld ?_
      rotate_left
      · ((intro w hSw); (try dsimp only at hSw); go_simp <;> with_reducible rfl)
      simp only [Act.put, List.setIfInBounds_toArray, List.set_cons_zero, List.set_cons_succ]
      refine take_run 17 (some 37) (v := ?_) rfl rfl (by kernel_rfl) (by kernel_rfl) (by kernel_rfl) (fun _ _ _ h => h) (by rfl) ?_ hHeld ?_
      rotate_left
      · ((intro w hSw); (try dsimp only at hSw); go_simp <;> with_reducible rfl)
      simp only [Act.put, List.setIfInBounds_toArray, List.set_cons_zero, List.set_cons_succ]
      refine take_run 18 (some 38) (v := ?_) rfl rfl (by kernel_rfl) (by kernel_rfl) (by kernel_rfl) (fun _ _ _ h => h) (by rfl) ?_ hHeld ?_
      rotate_left
      · ((intro w hSw); (try dsimp only at hSw); go_simp <;> with_reducible rfl)
      simp only [Act.put, List.setIfInBounds_toArray, List.set_cons_zero, List.set_cons_succ]
      refine take_run 19 (some 39) (v := ?_) rfl rfl (by kernel_rfl) (by kernel_rfl) (by kernel_rfl) (fun _ _ _ h => h) (by rfl) ?_ hHeld ?_
      rotate_left
      · ((intro w hSw); (try dsimp only at hSw); go_simp <;> with_reducible rfl)
      simp only [Act.put, List.setIfInBounds_toArray, List.set_cons_zero, List.set_cons_succ]
      refine take_run 20 (some 40) (v := ?_) rfl rfl (by kernel_rfl) (by kernel_rfl) (by kernel_rfl) (fun _ _ _ h => h) (by rfl) ?_ hHeld ?_
      rotate_left
      · ((intro w hSw); (try dsimp only at hSw); go_simp <;> with_reducible rfl)
      simp only [Act.put, List.setIfInBounds_toArray, List.set_cons_zero, List.set_cons_succ]
      refine take_run 21 (some 41) (v := ?_) rfl rfl (by kernel_rfl) (by kernel_rfl) (by kernel_rfl) (fun _ _ _ h => h) (by rfl) ?_ hHeld ?_
      rotate_left
      · ((intro w hSw); (try dsimp only at hSw); go_simp <;> with_reducible rfl)
      simp only [Act.put, List.setIfInBounds_toArray, List.set_cons_zero, List.set_cons_succ]
      refine take_run 22 (some 42) (v := ?_) rfl rfl (by kernel_rfl) (by kernel_rfl) (by kernel_rfl) (fun _ _ _ h => h) (by rfl) ?_ hHeld ?_
      rotate_left
      · ((intro w hSw); (try dsimp only at hSw); go_simp <;> with_reducible rfl)
      simp only [Act.put, List.setIfInBounds_toArray, List.set_cons_zero, List.set_cons_succ]
      refine take_run 23 (some 43) (v := ?_) rfl rfl (by kernel_rfl) (by kernel_rfl) (by kernel_rfl) (fun _ _ _ h => h) (by rfl) ?_ hHeld ?_
      rotate_left
      · ((intro w hSw); (try dsimp only at hSw); go_simp <;> with_reducible rfl)
      simp only [Act.put, List.setIfInBounds_toArray, List.set_cons_zero, List.set_cons_succ]
      refine take_run 24 (some 44) (v := ?_) rfl rfl (by kernel_rfl) (by kernel_rfl) (by kernel_rfl) (fun _ _ _ h => h) (by rfl) ?_ hHeld ?_
      rotate_left
      · ((intro w hSw); (try dsimp only at hSw); go_simp <;> with_reducible rfl)
      simp only [Act.put, List.setIfInBounds_toArray, List.set_cons_zero, List.set_cons_succ]
      refine take_run 25 (some 45) (v := ?_) rfl rfl (by kernel_rfl) (by kernel_rfl) (by kernel_rfl) (fun _ _ _ h => h) (by rfl) ?_ hHeld ?_
      rotate_left
      · ((intro w hSw); (try dsimp only at hSw); go_simp <;> with_reducible rfl)
      simp only [Act.put, List.setIfInBounds_toArray, List.set_cons_zero, List.set_cons_succ]
      refine take_run 26 (some 46) (v := ?_) rfl rfl (by kernel_rfl) (by kernel_rfl) (by kernel_rfl) (fun _ _ _ h => h) (by rfl) ?_ hHeld ?_
      rotate_left
      · ((intro w hSw); (try dsimp only at hSw); go_simp <;> with_reducible rfl)
      simp only [Act.put, List.setIfInBounds_toArray, List.set_cons_zero, List.set_cons_succ]
      refine take_one 27 (by kernel_rfl) rfl (fun K hK => ?_)
      go_simp
      (refine (cfVers_same v.wa u.wa v.wc u.wc v.ws.length v.ws u.ws _ HB.out.2.1 rfl E3.out.symm E4.out HB.out.2.2.2 (R2.out.on hHeld.2.2.below).vg (R4.out.on hHeld.2.2.below).vg).mono ?_; rintro e w2 ⟨rfl, hb1⟩)
      try go_wp2_with fail
      refine hK.out _ _ (by exact jh _ (hHeld.2.2.on hb1)) (fun hHeld => ?_)
      clear hK K
      refine take_run 28 (some 48) (v := ?_) rfl rfl (by kernel_rfl) (by kernel_rfl) (by kernel_rfl) (fun _ _ _ h => h) (by rfl) ?_ hHeld ?_
      rotate_left
      · ((intro w hSw); (try dsimp only at hSw); go_simp <;> with_reducible rfl)
      simp only [Act.put, List.setIfInBounds_toArray, List.set_cons_zero, List.set_cons_succ]
      refine take_run 29 (some 49) (v := ?_) rfl rfl (by kernel_rfl) (by kernel_rfl) (by kernel_rfl) (fun _ _ _ h => h) (by rfl) ?_ hHeld ?_
      rotate_left
      · ((intro w hSw); (try dsimp only at hSw); go_simp <;> with_reducible rfl)
      simp only [Act.put, List.setIfInBounds_toArray, List.set_cons_zero, List.set_cons_succ]
      refine wpAnyH_done (by kernel_rfl) ?_ _
      refine NoPanic.normal ?_
      have hI2 := hHeld.2.2
      clear hHeld hI q0 q1
      go_wp2
      exact ⟨⟨k + 1, by omega, by go_num, hI2⟩, by simp [intOf]; omega⟩
    · have hkn : k = n := by omega
      subst hkn
      clear hlt
      go_wp2
      go_ret
      exact ⟨rfl, hI.below⟩
set_option maxRecDepth 100000 in
set_option maxHeartbeats 1000000 in
theorem drawChainNew_any (w : World) (a : Option Addr) (len cap : Nat) (hc : Code0 w a len cap) (hl : len ≤ 1048576) :
    Calls Try.prog 10 #[.slice a len cap] w fun e w' => ∃ n : Int, e = .returned (.int .i64 n) ∧ Below w.heap.size w w' := by
  go_enter Try.func10, Try.ntmps10
  go_wp2_with fail
  refine (l20Open_any w a len cap hc hl).mono ?_
  rintro e w1 ⟨ra, rl, rc, rfl, hb1, h1⟩
  have z1 := h1.inside
  obtain ⟨g, eg⟩ : ∃ g, g = w.heap.size := ⟨_, rfl⟩
  rw [← eg] at h1 z1 ⊢
  have hg2 : w.heap.size ≤ g := by omega
  have HEG := hide eg
  clear hc eg
  go_wp2_with fail
  refine (oneN_any _ g ra rl rc 0 w1.heap.size 6 (h1.alloc _) (by omega) (by omega) (by simp) (by omega) (by omega) (fun i hi => ?_)).mono ?_
  · rw [Blk.at (Blk.made _ _ _)]
    match i, hi with
    | 0, _ => exact ⟨_, rfl⟩
    | 1, _ => exact ⟨_, rfl⟩
    | 2, _ => exact ⟨_, rfl⟩
    | 3, _ => exact ⟨_, rfl⟩
    | 4, _ => exact ⟨_, rfl⟩
    | 5, _ => exact ⟨_, rfl⟩
    | n + 6, hi => omega
  · rintro e w2 ⟨x, _, rfl, hg3, h3⟩
    have HL := hide (below_grown (hb1.trans ((below_alloc1 w1 _).mono hb1.size)) hg3 hg2)
    clear h1 h3 hg3 hb1
    go_wp2
    go_ret
    exact ⟨x, rfl, by first | exact HL.out | (rw [HEG.out]; exact HL.out)⟩
end Go.Proofs.Ytpelibkdphgpjaa
/- Contract of the model's decimals. Condition: a number that is not negative. -/
namespace Go.Proofs.Ytpelibkdphgpjaa
open Go.RowKit Go.Joins
attribute [local go_sem ↓] Go.wp_at_zero Go.wp_at_succ

/-- A figure. -/
def figS (n : Nat) : ByteArray := ⟨#[UInt8.ofNat (48 + n)]⟩
/-- A number in decimals. -/
def decS (n : Nat) : ByteArray := if _h : n < 10 then figS n else decS (n / 10) ++ figS (n % 10)
termination_by n
theorem decS_low {n : Nat} (h : n < 10) : decS n = figS n := by rw [decS, dif_pos h]
theorem decS_high {n : Nat} (h : ¬ n < 10) : decS n = decS (n / 10) ++ figS (n % 10) := by rw [decS, dif_neg h]

theorem figS_size (n : Nat) : (figS n).size = 1 := rfl
theorem decS_size (n : Nat) : (decS n).size ≤ n + 1 := by
  induction n using Nat.strongRecOn with
  | ind n ih =>
    by_cases h : n < 10
    · rw [decS_low h, figS_size]
      omega
    · rw [decS_high h, ByteArray.size_append, figS_size]
      have := ih (n / 10) (by omega)
      omega
theorem conv_fig (n : Nat) (hn : n < 10) (g : Nat) (W : World) (h : W.cell? ⟨g, 0, none⟩ = some (.int .u8 (48 + (n : Int)))) : (convert 22 9 (.slice (some ⟨g, 0, none⟩) 1 1)).run Try.prog W = .ok (.string (figS n)) W := by
  have hb : (UInt8.ofNat (48 + n)).toNat = 48 + n := by
    rw [UInt8.toNat_ofNat']
    omega
  exact run_convert_bytes_back (P := Try.prog) W 22 9 5 ⟨g, 0, none⟩ 1 [UInt8.ofNat (48 + n)] Try.underlying22 Try.underlying5 Try.underlying9 (fun j hj => by
    have hj0 : j = 0 := by simp at hj; omega
    subst hj0
    have e0 : (⟨g, 0, none⟩ : Addr).add 0 = ⟨g, 0, none⟩ := by simp [Addr.add]
    rw [e0, h]
    simp only [List.getElem_cons_zero, hb]
    rfl)
set_option maxRecDepth 100000 in
set_option maxHeartbeats 2000000 in
theorem l1Dec_any : ∀ (n : Nat), n ≤ 1000000 → ∀ w : World, Calls Try.prog 133 #[.int .i64 (n : Int)] w fun e w' => e = .returned (.string (decS n)) ∧ Below w.heap.size w w' := by
  intro n
  induction n using Nat.strongRecOn with
  | ind n ih =>
    intro hn w
    have h0 : ¬ ((n : Int) < -9223372036854775807) := by omega
    have h1 : ¬ ((n : Int) < 0) := by omega
    by_cases hlt : n < 10
    · have h2 : (n : Int) < 10 := by omega
      have HS := hide (decS_low hlt)
      have hcv := conv_fig n hlt w.heap.size (w.alloc (.cells #[.int .u8 (48 + (n : Int))] 5)) ((Blk.made _ _ _).at 0)
      have L0 := below_alloc1 w (.cells #[.int .u8 (48 + (n : Int))] 5)
      clear ih
      go_enter Try.func133, Try.ntmps133
      go_wp2
      go_ret
      exact ⟨by rw [HS.out]; rfl, L0⟩
    · have h2 : ¬ ((n : Int) < 10) := by omega
      have HS := hide (decS_high hlt)
      have IH := hide (ih (n / 10) (by omega) (by omega))
      clear ih
      obtain ⟨q, hq⟩ : ∃ q, q = n / 10 := ⟨_, rfl⟩
      obtain ⟨r, hr⟩ : ∃ r, r = n % 10 := ⟨_, rfl⟩
      rw [← hq] at IH HS
      rw [← hr] at HS
      have e1 : (n : Int) / 10 = (q : Int) := by omega
      have e2 : (n : Int) % 10 = (r : Int) := by omega
      have hr10 : r < 10 := by omega
      have e3 : (n : Int).tmod 10 = (r : Int) := by rw [Int.tmod_eq_emod_of_nonneg (by omega)]; omega
      have b1 : (0 : Int) ≤ (r : Int) ∧ (r : Int) < 10 := by omega
      have v1 : IntKind.i64.wrap (q : Int) = (q : Int) := by rw [IntKind.wrap_i64]; omega
      have v2 : IntKind.i64.wrap (48 + (r : Int)) = 48 + (r : Int) := by rw [IntKind.wrap_i64]; omega
      have v3 : IntKind.u8.wrap (48 + (r : Int)) = 48 + (r : Int) := by rw [IntKind.wrap_u8']; omega
      have v4 : IntKind.i64.wrap (r : Int) = (r : Int) := by rw [IntKind.wrap_i64]; omega
      have hz : ¬ (9223372036854775807 < (decS q).size + (figS r).size) := by have := decS_size q; rw [figS_size]; omega
      have B0 := hide (Blk.made w 5 #[.int .u8 (48 + (r : Int))])
      clear hq hr
      go_enter Try.func133, Try.ntmps133
      go_wp2_with fail
      refine wp_region_noPanic ?_
      refine wp_region_held_drew (S := (fun w' => Below w.heap.size w w')) (by kernel_rfl) (by exact (Below.refl _ _).drew) (fun hHeld => ?_)
      refine take_run 0 (some 18) (v := ?_) rfl rfl (by kernel_rfl) (by kernel_rfl) (by kernel_rfl) (fun _ _ _ h => h) (by rfl) ?_ hHeld ?_
      rotate_left
      · ((intro w hSw); (try dsimp only at hSw); go_simp <;> with_reducible rfl)
      simp only [Act.put, List.setIfInBounds_toArray, List.set_cons_zero, List.set_cons_succ]
      refine take_run 1 (some 19) (v := ?_) rfl rfl (by kernel_rfl) (by kernel_rfl) (by kernel_rfl) (fun _ _ _ h => h) (by rfl) ?_ hHeld ?_
      rotate_left
      · ((intro w hSw); (try dsimp only at hSw); go_simp <;> with_reducible rfl)
      simp only [Act.put, List.setIfInBounds_toArray, List.set_cons_zero, List.set_cons_succ]
      refine take_run 3 (some 21) (v := ?_) rfl rfl (by kernel_rfl) (by kernel_rfl) (by kernel_rfl) (fun _ _ _ h => h) (by rfl) ?_ hHeld ?_
      rotate_left
      · ((intro w hSw); (try dsimp only at hSw); go_simp <;> with_reducible rfl)
      simp only [Act.put, List.setIfInBounds_toArray, List.set_cons_zero, List.set_cons_succ]
      refine take_run 4 (some 22) (v := ?_) rfl rfl (by kernel_rfl) (by kernel_rfl) (by kernel_rfl) (fun _ _ _ h => h) (by rfl) ?_ hHeld ?_
      rotate_left
      · ((intro w hSw); (try dsimp only at hSw); go_simp <;> with_reducible rfl)
      simp only [Act.put, List.setIfInBounds_toArray, List.set_cons_zero, List.set_cons_succ]
      refine take_run 5 (some 23) (v := ?_) rfl rfl (by kernel_rfl) (by kernel_rfl) (by kernel_rfl) (fun _ _ _ h => h) (by rfl) ?_ hHeld ?_
      rotate_left
      · ((intro w hSw); (try dsimp only at hSw); go_simp <;> with_reducible rfl)
      simp only [Act.put, List.setIfInBounds_toArray, List.set_cons_zero, List.set_cons_succ]
      refine take_run 6 (some 24) (v := ?_) rfl rfl (by kernel_rfl) (by kernel_rfl) (by kernel_rfl) (fun _ _ _ h => h) (by rfl) ?_ hHeld ?_
      rotate_left
      · ((intro w hSw); (try dsimp only at hSw); go_simp <;> with_reducible rfl)
      simp only [Act.put, List.setIfInBounds_toArray, List.set_cons_zero, List.set_cons_succ]
      refine wpAnyH_ready (rs := [2, 7]) (by kernel_rfl) (by simp) ?_
      refine AllReadyH.cons rfl (fun K hK => ?_) (AllReadyH.cons rfl (fun K hK => ?_) AllReadyH.nil)
      · skip
        go_simp
        ((with_reducible refine (IH.out _).mono ?_); rintro e w1 ⟨rfl, hb1⟩; (try have BG2 := hide (BG.out.on hb1)); (try have hcv2 := conv_fig r hr10 _ _ (BG2.out.at 0)))
        try go_wp2_with fail
        refine hK.out _ _ (by exact hHeld.trans (hb1.mono hHeld.size)) (fun hHeld => ?_)
        clear hK K
        refine take_one 7 (by kernel_rfl) rfl (fun K hK => ?_)
        go_simp
        ((first | have BG := hide (Blk.made w1 5 #[.int .u8 (48 + (r : Int))]) | have BG := hide B0.out.drew); have hcv := conv_fig r hr10 _ _ (BG.out.at 0))
        try go_wp2_with fail
        refine hK.out _ _ (by exact hHeld.trans ((below_alloc1 _ _).mono hHeld.size)) (fun hHeld => ?_)
        clear hK K
        refine take_one 8 (by kernel_rfl) rfl (fun K hK => ?_)
        go_simp
        refine hK.out _ _ (by exact hHeld) (fun hHeld => ?_)
        clear hK K
        refine take_run 9 (some 27) (v := ?_) rfl rfl (by kernel_rfl) (by kernel_rfl) (by kernel_rfl) (fun _ _ _ h => h) (by rfl) ?_ hHeld ?_
        rotate_left
        · ((intro w hSw); (try dsimp only at hSw); go_simp <;> with_reducible rfl)
        simp only [Act.put, List.setIfInBounds_toArray, List.set_cons_zero, List.set_cons_succ]
        refine take_run 10 (some 2) (v := ?_) rfl rfl (by kernel_rfl) (by kernel_rfl) (by kernel_rfl) (fun _ _ _ h => h) (by rfl) ?_ hHeld ?_
        rotate_left
        · ((intro w hSw); (try dsimp only at hSw); go_simp <;> with_reducible rfl)
        simp only [Act.put, List.setIfInBounds_toArray, List.set_cons_zero, List.set_cons_succ]
        refine wpAnyH_done (by kernel_rfl) ?_ _
        refine NoPanic.normal ?_
        have L9 := hHeld
        clear hHeld
        go_wp2
        go_ret
        exact ⟨by rw [HS.out]; rfl, L9⟩
      · skip
        go_simp
        ((first | have BG := hide (Blk.made w1 5 #[.int .u8 (48 + (r : Int))]) | have BG := hide B0.out.drew); have hcv := conv_fig r hr10 _ _ (BG.out.at 0))
        try go_wp2_with fail
        refine hK.out _ _ (by exact hHeld.trans ((below_alloc1 _ _).mono hHeld.size)) (fun hHeld => ?_)
        clear hK K
        refine wpAnyH_ready (rs := [2, 8]) (by kernel_rfl) (by simp) ?_
        refine AllReadyH.cons rfl (fun K hK => ?_) (AllReadyH.cons rfl (fun K hK => ?_) AllReadyH.nil)
        · skip
          go_simp
          ((with_reducible refine (IH.out _).mono ?_); rintro e w1 ⟨rfl, hb1⟩; (try have BG2 := hide (BG.out.on hb1)); (try have hcv2 := conv_fig r hr10 _ _ (BG2.out.at 0)))
          try go_wp2_with fail
          refine hK.out _ _ (by exact hHeld.trans (hb1.mono hHeld.size)) (fun hHeld => ?_)
          clear hK K
          refine take_one 8 (by kernel_rfl) rfl (fun K hK => ?_)
          go_simp
          refine hK.out _ _ (by exact hHeld) (fun hHeld => ?_)
          clear hK K
          refine take_run 9 (some 27) (v := ?_) rfl rfl (by kernel_rfl) (by kernel_rfl) (by kernel_rfl) (fun _ _ _ h => h) (by rfl) ?_ hHeld ?_
          rotate_left
          · ((intro w hSw); (try dsimp only at hSw); go_simp <;> with_reducible rfl)
          simp only [Act.put, List.setIfInBounds_toArray, List.set_cons_zero, List.set_cons_succ]
          refine take_run 10 (some 2) (v := ?_) rfl rfl (by kernel_rfl) (by kernel_rfl) (by kernel_rfl) (fun _ _ _ h => h) (by rfl) ?_ hHeld ?_
          rotate_left
          · ((intro w hSw); (try dsimp only at hSw); go_simp <;> with_reducible rfl)
          simp only [Act.put, List.setIfInBounds_toArray, List.set_cons_zero, List.set_cons_succ]
          refine wpAnyH_done (by kernel_rfl) ?_ _
          refine NoPanic.normal ?_
          have L9 := hHeld
          clear hHeld
          go_wp2
          go_ret
          exact ⟨by rw [HS.out]; rfl, L9⟩
        · skip
          go_simp
          refine hK.out _ _ (by exact hHeld) (fun hHeld => ?_)
          clear hK K
          refine take_one 2 (by kernel_rfl) rfl (fun K hK => ?_)
          go_simp
          ((with_reducible refine (IH.out _).mono ?_); rintro e w1 ⟨rfl, hb1⟩; (try have BG2 := hide (BG.out.on hb1)); (try have hcv2 := conv_fig r hr10 _ _ (BG2.out.at 0)))
          try go_wp2_with fail
          refine hK.out _ _ (by exact hHeld.trans (hb1.mono hHeld.size)) (fun hHeld => ?_)
          clear hK K
          refine take_run 9 (some 27) (v := ?_) rfl rfl (by kernel_rfl) (by kernel_rfl) (by kernel_rfl) (fun _ _ _ h => h) (by rfl) ?_ hHeld ?_
          rotate_left
          · ((intro w hSw); (try dsimp only at hSw); go_simp <;> with_reducible rfl)
          simp only [Act.put, List.setIfInBounds_toArray, List.set_cons_zero, List.set_cons_succ]
          refine take_run 10 (some 2) (v := ?_) rfl rfl (by kernel_rfl) (by kernel_rfl) (by kernel_rfl) (fun _ _ _ h => h) (by rfl) ?_ hHeld ?_
          rotate_left
          · ((intro w hSw); (try dsimp only at hSw); go_simp <;> with_reducible rfl)
          simp only [Act.put, List.setIfInBounds_toArray, List.set_cons_zero, List.set_cons_succ]
          refine wpAnyH_done (by kernel_rfl) ?_ _
          refine NoPanic.normal ?_
          have L9 := hHeld
          clear hHeld
          go_wp2
          go_ret
          exact ⟨by rw [HS.out]; rfl, L9⟩
end Go.Proofs.Ytpelibkdphgpjaa
