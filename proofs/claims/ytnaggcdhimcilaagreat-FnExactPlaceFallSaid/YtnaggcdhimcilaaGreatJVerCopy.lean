/- Vectors that a call answers: nothing, or tags in a row of its own; how such an answer is marked and compared. Condition: at most 1048576 tags. -/
import Derived.Test.YtnaggcdhimcilaaGreatJPastJoin2
import Derived.Deep.AppendLies
namespace Go.Proofs.YtnaggcdhimcilaaGreat
open Go.RowKit Go.Joins

/-- A slice that reads as these tags: none at all, or in a block of its own from B on and below U. -/
def Res (w : World) (B U : Nat) (A : Option Addr) (rs : List (Int × Int)) : Prop :=
  (A = none ∧ rs = []) ∨ ∃ (g : Nat) (T : TypeId) (cur : Array Value), A = some ⟨g, 0, none⟩ ∧ B ≤ g ∧ g < U ∧ Blk w g T cur ∧ rs.length * 2 ≤ cur.size ∧ ∀ i x, rs[i]? = some x → TagAt cur i x
theorem Res.keep {w w' : World} {B U : Nat} {A : Option Addr} {rs : List (Int × Int)} {row : Option Nat} (h : Res w B U A rs) (hg : w.grownBy w' row) (hr : ∀ g, row = some g → g < B ∨ U ≤ g) : Res w' B U A rs := by
  rcases h with h | ⟨g, T, cur, rfl, hB, hU, hb, hs, hc⟩
  · exact .inl h
  · exact .inr ⟨g, T, cur, rfl, hB, hU, hb.kept hg (by intro e; have := hr g e; omega), hs, hc⟩
theorem Res.on {w w' : World} {B U : Nat} {A : Option Addr} {rs : List (Int × Int)} (h : Res w B U A rs) (hb : Below w.heap.size w w') : Res w' B U A rs := h.keep (row := none) (grown_none hb) (by simp)
theorem Res.drew {w : World} {B U : Nat} {A : Option Addr} {rs : List (Int × Int)} (h : Res w B U A rs) : Res w.drew B U A rs := h
theorem Res.alloc {w : World} {B U : Nat} {A : Option Addr} {rs : List (Int × Int)} (h : Res w B U A rs) (o : Obj) : Res (w.alloc o) B U A rs := h.on (below_alloc1 w o)
theorem Res.set {w : World} {B U : Nat} {A : Option Addr} {rs : List (Int × Int)} (h : Res w B U A rs) {p : Addr} (hp : p.block < B ∨ U ≤ p.block) (u : Value) : Res (w.setCell p u) B U A rs := by
  rcases h with h | ⟨g, T, cur, rfl, hB, hU, hb, hs, hc⟩
  · exact .inl h
  · exact .inr ⟨g, T, cur, rfl, hB, hU, hb.aside (by omega) u, hs, hc⟩
theorem Res.swap {w : World} {B U : Nat} {A : Option Addr} {rs : List (Int × Int)} {o o' : Obj} (h : Res (w.alloc o) B U A rs) (hU : U ≤ w.heap.size) : Res (w.alloc o') B U A rs := by
  rcases h with h | ⟨g, T, cur, rfl, hB, hU', hb, hs, hc⟩
  · exact .inl h
  · have e : Blk (w.alloc o') g T cur := by
      unfold Blk at hb ⊢
      rw [Below.heap_alloc w o' g (by omega), ← Below.heap_alloc w o g (by omega)]
      exact hb
    exact .inr ⟨g, T, cur, rfl, hB, hU', e, hs, hc⟩
theorem Res.tg {w : World} {B U : Nat} {A : Option Addr} {rs : List (Int × Int)} (h : Res w B U A rs) : Tg w w.heap.size A rs := by
  rcases h with ⟨_, h⟩ | ⟨g, T, cur, rfl, _, _, hb, _, hc⟩
  · exact .inl h
  · exact Tg.of hb hb.inside hc
theorem Res.of {w : World} {B U g : Nat} {T : TypeId} {cur : Array Value} {rs : List (Int × Int)} (hB : B ≤ g) (hU : g < U) (hb : Blk w g T cur) (hs : rs.length * 2 ≤ cur.size) (hc : ∀ i x, rs[i]? = some x → TagAt cur i x) : Res w B U (some ⟨g, 0, none⟩) rs :=
  .inr ⟨g, T, cur, rfl, hB, hU, hb, hs, hc⟩

/-- At most one block has turned, and none of the known ones. -/
theorem Inv.part {w w1 w2 : World} {n : Nat} {bs : List (Nat × TypeId × Array Value)} {row : Option Nat} (h : Inv w n bs w1) (hg : w1.grownBy w2 row) (hw : ∀ g, row = some g → w.heap.size ≤ g) (hs : ∀ x ∈ bs, ∀ g, row = some g → x.1 ≠ g) : Inv w n bs w2 :=
  ⟨h.below.grown hg h.below.size hw, Nat.le_trans h.room hg.size, fun x hx => ⟨(h.blk x hx).1, (h.blk x hx).2.1, (h.blk x hx).2.2.kept hg (fun e => hs x hx _ e rfl)⟩⟩

/-- What PastJoin answers, as tags. -/
def joinL (ts us : List (Int × Int)) : List (Int × Int) := if (pastB ts && pastB us) = true then mxL ts us else []
/-- An answer that is a vector. -/
def Answer (w : World) (rs : List (Int × Int)) (e : Ending) (w' : World) : Prop :=
  ∃ (A : Option Addr) (cap : Nat), e = .returned (.agg #[.slice A rs.length cap]) ∧ Res w' w.heap.size w'.heap.size A rs ∧ Below w.heap.size w w'

/-- What marking an answer leaves: the marks; only its own block has turned. -/
def MarkedR (w : World) (B U : Nat) (A : Option Addr) (n : Nat) (k : Int) (e : Ending) (w' : World) : Prop :=
  ∃ row : Option Nat, e = .returned (.int .i64 (k + 2 * (n : Int))) ∧ Res w' B U A (marksL k n) ∧ w.grownBy w' row ∧ ∀ g, row = some g → B ≤ g ∧ g < U
end Go.Proofs.YtnaggcdhimcilaaGreat
/- Contracts of the functions that copy a version, of program and model. Condition: at most 1048576 causes. -/
namespace Go.Proofs.YtnaggcdhimcilaaGreat
open Go.RowKit Go.Joins

theorem flatT_len (ts : List (Int × Int)) : (flatT ts).length = ts.length * 2 := by
  induction ts with
  | nil => rfl
  | cons x r ih => simp [flatT] at *; omega
theorem flatT_get : ∀ (ts : List (Int × Int)) (j : Nat) (u : Value), (flatT ts)[j]? = some u → ∃ (i : Nat) (x : Int × Int), ts[i]? = some x ∧ (j = i * 2 ∧ u = .int .i64 x.1 ∨ j = i * 2 + 1 ∧ u = .int .i64 x.2)
  | [], j, u, h => by simp [flatT] at h
  | x :: r, 0, u, h => ⟨0, x, rfl, .inl ⟨rfl, by simp [flatT] at h; exact h.symm⟩⟩
  | x :: r, 1, u, h => ⟨0, x, rfl, .inr ⟨rfl, by simp [flatT] at h; exact h.symm⟩⟩
  | x :: r, j + 2, u, h => by
    have h' : (flatT r)[j]? = some u := by
      have e : flatT (x :: r) = .int .i64 x.1 :: .int .i64 x.2 :: flatT r := by simp [flatT]
      rw [e] at h
      simpa using h
    obtain ⟨i, y, h1, h2⟩ := flatT_get r j u h'
    rcases h2 with ⟨h2, q⟩ | ⟨h2, q⟩
    · exact ⟨i + 1, y, by simpa using h1, .inl ⟨by omega, q⟩⟩
    · exact ⟨i + 1, y, by simpa using h1, .inr ⟨by omega, q⟩⟩
theorem tg_news {w : World} {b off : Nat} {ts : List (Int × Int)} (hx : ∀ (i : Nat) x, ts[i]? = some x → w.cell? ⟨b, off + i * 2, none⟩ = some (.int .i64 x.1) ∧ w.cell? ⟨b, off + i * 2 + 1, none⟩ = some (.int .i64 x.2)) (j : Nat) (u : Value) (hj : (flatT ts)[j]? = some u) :
    w.cell? ((⟨b, off, none⟩ : Addr).add j) = some u := by
  have hadd : (⟨b, off, none⟩ : Addr).add j = ⟨b, off + j, none⟩ := by unfold Addr.add; split <;> simp_all
  rw [hadd]
  obtain ⟨i, x, h1, h2 | h2⟩ := flatT_get ts j u hj
  · obtain ⟨rfl, rfl⟩ := h2
    exact (hx i x h1).1
  · obtain ⟨rfl, rfl⟩ := h2
    exact (hx i x h1).2

theorem flat_tagsV {cur : Array Value} {p : List (Int × Int)} {m : Nat} (h : cur.toList.take m = flatT p) : ∀ i x, p[i]? = some x → TagAt cur i x := by
  intro i x hx
  obtain ⟨h0, h1⟩ := flatT_at p i x hx
  rw [← h] at h0 h1
  refine ⟨?_, ?_⟩
  · obtain ⟨hl, _⟩ := List.getElem?_eq_some_iff.1 h0
    rw [List.length_take] at hl
    rw [List.getElem?_take_of_lt (by omega)] at h0
    simpa using h0
  · obtain ⟨hl, _⟩ := List.getElem?_eq_some_iff.1 h1
    rw [List.length_take] at hl
    rw [List.getElem?_take_of_lt (by omega)] at h1
    simpa using h1
theorem own_row {w : World} {base g cap n : Nat} {ts : List (Int × Int)} (h : w.ownsRow base 91 2 (.slice (some ⟨g, 0, none⟩) n cap) n (flatT ts)) : ∃ cur, base ≤ g ∧ Blk w g 91 cur ∧ n * 2 ≤ cur.size ∧ ∀ i x, ts[i]? = some x → TagAt cur i x := by
  rcases h.2 with ⟨h, _⟩ | ⟨g', cap', cur, h, hg', hb', hn', hm', hs', ht'⟩
  · cases h
  · injection h with h1 h2 h3
    injection h1 with h1
    injection h1 with h1
    subst h1
    exact ⟨cur, hg', hb', by omega, flat_tagsV ht'⟩

/-- What a copy of a version is. -/
def Cloned (w : World) (v : V) (e : Ending) (w' : World) : Prop :=
  ∃ v' : V, e = .returned (.agg (verC v'.k v'.t v'.u v'.a v'.ts.length v'.c v'.s v'.g)) ∧ V.like v' v ∧ Own1 w' w.heap.size w'.heap.size v' ∧ Below w.heap.size w w'

set_option maxRecDepth 100000 in
set_option maxHeartbeats 2000000 in
theorem clone_any (v : V) (w : World) (hn : v.ts.length ≤ 1048576) (ht : Tg w w.heap.size v.a v.ts) :
    Calls Tryz.prog 75 #[.agg (verC v.k v.t v.u v.a v.ts.length v.c v.s v.g)] w (Cloned w v) := by
  obtain ⟨k, t, u, a, c, ts, s, g⟩ := v
  simp only at hn ht ⊢
  have S0 := ((Inv.start w).box 96 (verC k t u a ts.length c s g)).box 96 (verC 0 0 0 none 0 0 ⟨#[]⟩ false)
  simp only [World.size_alloc] at S0
  obtain ⟨i0, hi0, hz0, hz1, hz2⟩ := info_parts tag_info
  have I0 := hide hi0
  have I1 := hide hz0
  have I2 := hide hz1
  have I3 := hide hz2
  clear hi0 hz0 hz1 hz2
  rcases ht with h0 | ⟨b, off, rfl, hb, hx⟩
  · subst h0
    cases a
    all_goals
      go_enter Tryz.func75, Tryz.ntmps75
      go_wp2
      refine bodyPost_ret (v := .agg (verC k t u none 0 0 s g)) (by simp [results, Tryz.results75, go_sem]) rfl ?_
      exact ⟨⟨k, t, u, none, 0, [], s, g⟩, rfl, ⟨rfl, rfl, rfl, rfl, rfl, rfl⟩, .inl rfl, by first | exact S0.below | exact below_alloc2 _ _ _⟩
  · by_cases h0 : ts = []
    · subst h0
      go_enter Tryz.func75, Tryz.ntmps75
      go_wp2
      refine bodyPost_ret (v := .agg (verC k t u none 0 0 s g)) (by simp [results, Tryz.results75, go_sem]) rfl ?_
      exact ⟨⟨k, t, u, none, 0, [], s, g⟩, rfl, ⟨rfl, rfl, rfl, rfl, rfl, rfl⟩, .inl rfl, by first | exact S0.below | exact below_alloc2 _ _ _⟩
    · have hpos : 0 < ts.length := List.length_pos_iff.2 h0
      have HNEWS := hide (tg_news (w := (w.alloc (.cells (verC k t u (some ⟨b, off, none⟩) ts.length c s g) 96)).alloc (.cells (verC 0 0 0 none 0 0 ⟨#[]⟩ false) 96)) (b := b) (off := off) (ts := ts) (fun i x hi => ⟨(S0.below.cell (p := ⟨b, off + i * 2, none⟩) hb).trans (hx i x hi).1, (S0.below.cell (p := ⟨b, off + i * 2 + 1, none⟩) hb).trans (hx i x hi).2⟩))
      have HFL := hide (flatT_len ts)
      have HO0 := hide (World.ownsRow_nil ((w.alloc (.cells (verC k t u (some ⟨b, off, none⟩) ts.length c s g) 96)).alloc (.cells (verC 0 0 0 none 0 0 ⟨#[]⟩ false) 96)) (w.heap.size + 1 + 1) 91 2)
      clear hx h0
      generalize hnn : ts.length = n at *
      have HN := hide hnn
      clear hnn
      go_enter Tryz.func75, Tryz.ntmps75
      go_wp2_with (at_builtin; (refine wpList_append_lies _ rfl (.const (.slice none 0 0)) (.tmp 5) 92 rfl (w.heap.size + 1 + 1) 91 i0 _ 2 16 Tryz.underlying92 I0.out I1.out I2.out I3.out rfl (by omega) (.slice none 0 0) 0 [] rfl HO0.out ⟨b, off, none⟩ n c (flatT ts) rfl HFL.out HNEWS.out (flatT_one ts) hpos (by unfold maxLen; omega) (by omega) (by simp) _ rfl ?_; intro g2 cap2 w5 hown hgrow hat hlt2; have S5 := S0.part hgrow (fun g' e => by simp [Value.ownBlock] at e) (fun x hx g' e => by simp [Value.ownBlock] at e); have OW := hide hown; have q5 := (S5.nth 1 rfl).six; have q6 := (S5.nth 0 rfl).six; have z5 := S5.room; clear hown hgrow hat))
      simp only [Nat.zero_add] at OW ⊢
      refine bodyPost_ret (v := .agg (verC k t u (some ⟨g2, 0, none⟩) n cap2 s g)) (by simp [results, Tryz.results75, go_sem, q6]) rfl ?_
      obtain ⟨cur, hg0, hblk, hcs, hca⟩ := own_row (by simpa using OW.out)
      have hl := S5.below
      exact ⟨⟨k, t, u, some ⟨g2, 0, none⟩, cap2, ts, s, g⟩, by simp only [HN.out], ⟨rfl, rfl, rfl, rfl, rfl, rfl⟩, .inr ⟨g2, cur, rfl, by omega, by simpa [World.setCell] using hblk.inside, (((((((hblk.aside (by simp; omega) _).aside (by simp; omega) _).aside (by simp; omega) _).aside (by simp; omega) _).aside (by simp; omega) _).aside (by simp; omega) _).aside (by simp; omega) _), by simp only [HN.out]; exact hcs, hca⟩, below_set6 (hl.setCell (by simp) _) (by omega) _ _ _ _ _ _⟩
set_option maxRecDepth 100000 in
set_option maxHeartbeats 2000000 in
theorem l2Copy_any (v : V) (w : World) (hn : v.ts.length ≤ 1048576) (ht : Tg w w.heap.size v.a v.ts) :
    Calls Tryz.prog 61 #[.agg (verC v.k v.t v.u v.a v.ts.length v.c v.s v.g)] w (Cloned w v) := by
  obtain ⟨k, t, u, a, c, ts, s, g⟩ := v
  simp only at hn ht ⊢
  have S0 := ((Inv.start w).box 96 (verC k t u a ts.length c s g)).box 96 (verC 0 0 0 none 0 0 ⟨#[]⟩ false)
  simp only [World.size_alloc] at S0
  obtain ⟨i0, hi0, hz0, hz1, hz2⟩ := info_parts tag_info
  have I0 := hide hi0
  have I1 := hide hz0
  have I2 := hide hz1
  have I3 := hide hz2
  clear hi0 hz0 hz1 hz2
  have S1 := S0.alloc (.cells #[] 91)
  rcases ht with h0 | ⟨b, off, rfl, hb, hx⟩
  · subst h0
    cases a
    all_goals
      go_enter Tryz.func61, Tryz.ntmps61
      go_wp2
      refine bodyPost_ret (v := .agg (verC k t u (some ⟨w.heap.size + 1 + 1, 0, none⟩) 0 0 s g)) (by simp [results, Tryz.results61, go_sem]) rfl ?_
      exact ⟨⟨k, t, u, some ⟨w.heap.size + 1 + 1, 0, none⟩, 0, [], s, g⟩, rfl, ⟨rfl, rfl, rfl, rfl, rfl, rfl⟩, .inl rfl, by first | exact S1.below | exact ((below_alloc2 _ _ _).alloc (by simp; omega) _) | exact below_set6 (((below_alloc2 _ _ _).alloc (by simp; omega) _).setCell (by simp) _) (by omega) _ _ _ _ _ _⟩
  · by_cases h0 : ts = []
    · subst h0
      go_enter Tryz.func61, Tryz.ntmps61
      go_wp2
      refine bodyPost_ret (v := .agg (verC k t u (some ⟨w.heap.size + 1 + 1, 0, none⟩) 0 0 s g)) (by simp [results, Tryz.results61, go_sem]) rfl ?_
      exact ⟨⟨k, t, u, some ⟨w.heap.size + 1 + 1, 0, none⟩, 0, [], s, g⟩, rfl, ⟨rfl, rfl, rfl, rfl, rfl, rfl⟩, .inl rfl, by first | exact S1.below | exact ((below_alloc2 _ _ _).alloc (by simp; omega) _) | exact below_set6 (((below_alloc2 _ _ _).alloc (by simp; omega) _).setCell (by simp) _) (by omega) _ _ _ _ _ _⟩
    · have hpos : 0 < ts.length := List.length_pos_iff.2 h0
      have BE := Blk.made ((w.alloc (.cells (verC k t u (some ⟨b, off, none⟩) ts.length c s g) 96)).alloc (.cells (verC 0 0 0 none 0 0 ⟨#[]⟩ false) 96)) 91 #[]
      simp only [World.size_alloc] at BE
      have O0 : (((w.alloc (.cells (verC k t u (some ⟨b, off, none⟩) ts.length c s g) 96)).alloc (.cells (verC 0 0 0 none 0 0 ⟨#[]⟩ false) 96)).alloc (.cells #[] 91)).ownsRow (w.heap.size + 1 + 1) 91 2 (.slice (some ⟨w.heap.size + 1 + 1, 0, none⟩) 0 0) 0 [] :=
        ⟨rfl, .inr ⟨w.heap.size + 1 + 1, 0, #[], rfl, Nat.le_refl _, BE, Nat.le_refl _, Nat.zero_le _, rfl, rfl⟩⟩
      have HNEWS := hide (tg_news (w := ((w.alloc (.cells (verC k t u (some ⟨b, off, none⟩) ts.length c s g) 96)).alloc (.cells (verC 0 0 0 none 0 0 ⟨#[]⟩ false) 96)).alloc (.cells #[] 91)) (b := b) (off := off) (ts := ts) (fun i x hi => ⟨(S1.below.cell (p := ⟨b, off + i * 2, none⟩) hb).trans (hx i x hi).1, (S1.below.cell (p := ⟨b, off + i * 2 + 1, none⟩) hb).trans (hx i x hi).2⟩))
      have HFL := hide (flatT_len ts)
      have HO0 := hide O0
      clear hx h0 O0 BE
      generalize hnn : ts.length = n at *
      have HN := hide hnn
      clear hnn
      go_enter Tryz.func61, Tryz.ntmps61
      go_wp2_with (at_builtin; (refine wpList_append_lies _ rfl (.tmp 3) (.tmp 6) 92 rfl (w.heap.size + 1 + 1) 91 i0 _ 2 16 Tryz.underlying92 I0.out I1.out I2.out I3.out rfl (by omega) (.slice (some ⟨w.heap.size + 1 + 1, 0, none⟩) 0 0) 0 [] rfl HO0.out ⟨b, off, none⟩ n c (flatT ts) rfl HFL.out HNEWS.out (flatT_one ts) hpos (by unfold maxLen; omega) (by omega) (by simp) _ rfl ?_; intro g2 cap2 w5 hown hgrow hat hlt2; have S5 := S1.part hgrow (fun g' e => by simp [Value.ownBlock] at e; omega) (fun x hx g' e => by { simp [Value.ownBlock] at e; have := (S0.blk x hx).2.1; omega }); have OW := hide hown; have q5 := (S5.nth 1 rfl).six; have q6 := (S5.nth 0 rfl).six; have z5 := S5.room; clear hown hgrow hat))
      simp only [Nat.zero_add] at OW ⊢
      refine bodyPost_ret (v := .agg (verC k t u (some ⟨g2, 0, none⟩) n cap2 s g)) (by simp [results, Tryz.results61, go_sem, q6]) rfl ?_
      obtain ⟨cur, hg0, hblk, hcs, hca⟩ := own_row (by simpa using OW.out)
      have hl := S5.below
      exact ⟨⟨k, t, u, some ⟨g2, 0, none⟩, cap2, ts, s, g⟩, by simp only [HN.out], ⟨rfl, rfl, rfl, rfl, rfl, rfl⟩, .inr ⟨g2, cur, rfl, by omega, by simpa [World.setCell] using hblk.inside, (((((((hblk.aside (by simp; omega) _).aside (by simp; omega) _).aside (by simp; omega) _).aside (by simp; omega) _).aside (by simp; omega) _).aside (by simp; omega) _).aside (by simp; omega) _), by simp only [HN.out]; exact hcs, hca⟩, below_set6 (hl.setCell (by simp) _) (by omega) _ _ _ _ _ _⟩
end Go.Proofs.YtnaggcdhimcilaaGreat
/- Contracts of the functions that copy a row of versions, of program and model. Condition: at most 1048576 versions, and causes of each. -/
namespace Go.Proofs.YtnaggcdhimcilaaGreat
open Go.RowKit Go.Joins
attribute [local go_sem ↓] Go.wp_at_zero Go.wp_at_succ

/-- The cells of a row of versions. -/
def cells6 (v : V) : List Value := [.int .i64 v.k, .int .i64 v.t, .int .i64 v.u, .slice v.a v.ts.length v.c, .string v.s, .bool v.g]
def flat6 (us : List V) : List Value := us.flatMap cells6
theorem flat6_snoc (us : List V) (v : V) : flat6 (us ++ [v]) = flat6 us ++ cells6 v := by simp [flat6]
theorem flat6_len (us : List V) : (flat6 us).length = us.length * 6 := by
  induction us with
  | nil => rfl
  | cons x r ih => simp [flat6, cells6] at *; omega
theorem flat6_at : ∀ (us : List V) (i : Nat) (v : V) (m : Nat), us[i]? = some v → m < 6 → (flat6 us)[i * 6 + m]? = (cells6 v)[m]?
  | [], i, v, m, h, _ => by simp at h
  | x :: r, 0, v, m, h, hm => by
    simp at h
    subst h
    have e : flat6 (x :: r) = cells6 x ++ flat6 r := by simp [flat6]
    rw [e, Nat.zero_mul, Nat.zero_add, List.getElem?_append_left (by simp [cells6]; omega)]
  | x :: r, i + 1, v, m, h, hm => by
    have e : flat6 (x :: r) = cells6 x ++ flat6 r := by simp [flat6]
    have h6 : (cells6 x).length = 6 := rfl
    rw [e, List.getElem?_append_right (by omega), h6]
    have : (i + 1) * 6 + m - 6 = i * 6 + m := by omega
    rw [this]
    exact flat6_at r i v m (by simpa using h) hm
theorem verAt_of {cur : Array Value} {us : List V} {n : Nat} (h : cur.toList.take n = flat6 us) (i : Nat) (v : V) (hi : us[i]? = some v) : VerAt cur i v := by
  have key : ∀ m, m < 6 → cur[i * 6 + m]? = (cells6 v)[m]? := by
    intro m hm
    have h1 := flat6_at us i v m hi hm
    rw [← h] at h1
    have h2 : ∃ u, (cells6 v)[m]? = some u := ⟨_, List.getElem?_eq_getElem (by simp [cells6]; omega)⟩
    obtain ⟨u, hu⟩ := h2
    rw [hu] at h1 ⊢
    obtain ⟨hl, _⟩ := List.getElem?_eq_some_iff.1 h1
    rw [List.length_take] at hl
    rw [List.getElem?_take_of_lt (by omega)] at h1
    simpa using h1
  exact ⟨key 0 (by omega), key 1 (by omega), key 2 (by omega), key 3 (by omega), key 4 (by omega), key 5 (by omega)⟩

/-- A row of copies as it grows. -/
structure CRow (base : Nat) (wr : World) (x : Value) (us : List V) : Prop where
  row : wr.ownsRow base 96 6 x us.length (flat6 us)
  own : ∀ (i : Nat) v, us[i]? = some v → Own1 wr base wr.heap.size v
  apart : ∀ (i j : Nat) v v', i ≠ j → us[i]? = some v → us[j]? = some v' → v.ts ≠ [] → v'.ts ≠ [] → v.a ≠ v'.a
  lo : base ≤ wr.heap.size
theorem CRow.start (base : Nat) (w : World) (h : base ≤ w.heap.size) : CRow base w (.slice none 0 0) [] :=
  ⟨World.ownsRow_nil _ _ _ _, fun i v h => by simp at h, fun i j v v' _ h => by simp at h, h⟩
theorem CRow.typed {base : Nat} {wr : World} {x : Value} {us : List V} (h : CRow base wr x us) (r : Nat) (hr : x.ownBlock = some r) : ∃ cs, Blk wr r 96 cs ∧ base ≤ r ∧ r < wr.heap.size := by
  rcases h.row.2 with ⟨rfl, _⟩ | ⟨g', cap, cr, rfl, hg', hb', _⟩
  · simp [Value.ownBlock] at hr
  · simp [Value.ownBlock] at hr
    subst hr
    exact ⟨cr, hb', hg', Blk.inside hb'⟩
theorem CRow.form {base : Nat} {wr : World} {x : Value} {us : List V} (h : CRow base wr x us) : ∃ A n c, x = .slice A n c := by
  rcases h.row.2 with ⟨rfl, _⟩ | ⟨g', cap, cr, rfl, hg', hb', _⟩
  · exact ⟨_, _, _, rfl⟩
  · exact ⟨_, _, _, rfl⟩
theorem CRow.on {base : Nat} {wr w2 : World} {x : Value} {us : List V} (h : CRow base wr x us) (hb : Below wr.heap.size wr w2) : CRow base w2 x us :=
  ⟨World.ownsRow.kept h.row (grown_none (row := none) hb) (Classical.em _), fun i v hi => ((h.own i v hi).on hb).wide hb.size, h.apart, Nat.le_trans h.lo hb.size⟩
/-- A store into a block below the row's, that holds no tags. -/
theorem CRow.aside {base : Nat} {wr : World} {x : Value} {us : List V} (h : CRow base wr x us) {p : Addr} {T : TypeId} {cs : Array Value} (hb : Blk wr p.block T cs) (hT : T ≠ 91) (hp : p.block < base) (u : Value) : CRow base (wr.setCell p u) x us :=
  ⟨ownsRow_setCell_below h.row hp u, fun i v hi => by
    have := (h.own i v hi).tk (.set hb hT u)
    simpa [World.setCell] using this, h.apart, by simpa [World.setCell] using h.lo⟩
/-- One copy more. -/
theorem CRow.push {base : Nat} {wr w1 w2 : World} {x : Value} {us : List V} {v : V} {B g cap : Nat} (h : CRow base wr x us) (hb : Below wr.heap.size wr w1) (hB : wr.heap.size ≤ B) (ho : Own1 w1 B w1.heap.size v)
    (hown : w2.ownsRow base 96 6 (.slice (some ⟨g, 0, none⟩) (us.length + 1) cap) (us.length + 1) (flat6 us ++ cells6 v)) (hg : w1.grownBy w2 x.ownBlock) : CRow base w2 (.slice (some ⟨g, 0, none⟩) (us.length + 1) cap) (us ++ [v]) := by
  have hk : Tk w1 w2 := .grown hg fun r hr => by
    obtain ⟨cs, h1, _⟩ := h.typed r hr
    exact ⟨_, _, h1.on hb, ver_ne_tag⟩
  have zb := h.lo
  have z1 := hb.size
  have z2 := hg.size
  have hget : ∀ (i : Nat) y, (us ++ [v])[i]? = some y → (i = us.length ∧ y = v) ∨ (i < us.length ∧ us[i]? = some y) := by
    intro i y hy
    by_cases e : i < us.length
    · rw [List.getElem?_append_left e] at hy
      exact .inr ⟨e, hy⟩
    · rw [List.getElem?_append_right (by omega)] at hy
      have h0 : i - us.length = 0 := by
        have := (List.getElem?_eq_some_iff.1 hy).1
        simp at this
        omega
      rw [h0] at hy
      simp at hy
      exact .inl ⟨by omega, hy.symm⟩
  have hap : ∀ (i : Nat) y, us[i]? = some y → y.ts ≠ [] → v.ts ≠ [] → y.a ≠ v.a := by
    intro i y hy hn hn'
    rcases h.own i y hy with h0 | ⟨g1, _, e1, _, q1, _⟩
    · exact absurd h0 hn
    · rcases ho with h0 | ⟨g2, _, e2, q2, _⟩
      · exact absurd h0 hn'
      · rw [e1, e2]
        intro e
        injection e with e
        injection e with e
        omega
  refine ⟨by simpa [flat6_snoc] using hown, fun i y hy => ?_, fun i j y y' hne hy hy' hn hn' => ?_, by omega⟩
  · rcases hget i y hy with ⟨rfl, rfl⟩ | ⟨_, hy⟩
    · exact ((ho.low (by omega)).tk hk).wide z2
    · exact ((((h.own i y hy).on hb).wide z1).tk hk).wide z2
  · rcases hget i y hy with ⟨e1, e2⟩ | ⟨e, hq⟩ <;> rcases hget j y' hy' with ⟨e3, e4⟩ | ⟨e', hq'⟩
    · omega
    · rw [e2]; exact fun e => hap j y' hq' hn' (e2 ▸ hn) e.symm
    · rw [e4]; exact hap i y hq hn (e4 ▸ hn')
    · exact h.apart i j y y' hne hq hq' hn hn'

/-- A row of versions that a call has made: none, or in a block of its own. -/
def ResV (w : World) (B U : Nat) (x : Value) (us : List V) : Prop :=
  (us = [] ∧ ∃ A cap, x = .slice A 0 cap) ∨ ∃ G cap cur, x = .slice (some ⟨G, 0, none⟩) us.length cap ∧ ORow w B U G us cur
theorem CRow.res {base : Nat} {wr : World} {x : Value} {us : List V} (h : CRow base wr x us) : ResV wr base wr.heap.size x us := by
  rcases h.row.2 with ⟨rfl, e⟩ | ⟨g', cap, cr, rfl, hg', hb', hn, hm, hs, ht⟩
  · exact .inl ⟨List.length_eq_zero_iff.1 (by omega), none, 0, rfl⟩
  · exact .inr ⟨g', cap, cr, rfl, hb', hg', Blk.inside hb', by omega, verAt_of ht, h.own, h.apart⟩
/-- What a copy of a row is. -/
def CopiedR (w : World) (vs : List V) (e : Ending) (w' : World) : Prop :=
  ∃ (x : Value) (us : List V), e = .returned x ∧ us.length = vs.length ∧ Like us vs ∧ CRow w.heap.size w' x us ∧ Below w.heap.size w w'

set_option maxRecDepth 100000 in
set_option maxHeartbeats 4000000 in
theorem copyVers_any (a : Option Addr) (c : Nat) (vs : List V) (w : World) (hn : vs.length ≤ 1048576) (hm : ∀ v ∈ vs, v.ts.length ≤ 1048576) (hv : Vg w w.heap.size a vs) :
    Calls Tryz.prog 107 #[.slice a vs.length c] w (CopiedR w vs) := by
  obtain ⟨i0, hi0, hz0, hz1, hz2⟩ := info_parts ver_info
  have I0 := hide hi0
  have I1 := hide hz0
  have I2 := hide hz1
  have I3 := hide hz2
  clear hi0 hz0 hz1 hz2
  have HM := hide hm
  clear hm
  generalize hnn : vs.length = n at *
  have HN := hide hnn
  clear hnn
  go_enter Tryz.func107, Tryz.ntmps107
  go_wp2
  go_loopw [3, 8] (fun x i wr => ∃ (k : Nat) (us : List V), k ≤ n ∧ i = .int .i64 (k : Int) ∧ Hid (us.length = k) ∧ Hid (Like us vs) ∧ Hid (CRow w.heap.size wr x us) ∧ Below w.heap.size w wr) (fun _ i _ => n - (intOf i).toNat)
  case atStart => exact ⟨0, [], Nat.zero_le _, rfl, rfl, fun i v v' hi => by simp at hi, CRow.start _ w (Nat.le_refl _), Below.refl _ _⟩
  case round =>
    obtain ⟨k, us, hk, rfl, HU, HL, HC, hLL⟩ := hrel
    by_cases hlt : k < n
    · rcases hv with h0 | ⟨b, off, rfl, hb, hx⟩
      · have := HN.out; subst h0; simp at this; omega
      · have hkl : k < vs.length := by have := HN.out; omega
        obtain ⟨hS, hT⟩ := hx k _ (List.getElem?_eq_getElem hkl)
        have HX := hide (List.getElem?_eq_getElem hkl)
        generalize vs[k] = v at hS hT HX
        have HB := hide (HM.out v (List.mem_of_getElem? HX.out))
        have hL := hLL
        obtain ⟨s0, s1, s2, s3, s4, s5⟩ := hS.keep hb fun _ hp => hL.cell hp
        have hzz := hL.size
        have HT := hide (((hT.on hL).up hzz))
        have i1 : (0 : Int) ≤ (k : Int) := by omega
        have i2 : (k : Int) < (n : Int) := by omega
        have LA := below_alloc1 wr (.cells (verC v.k v.t v.u v.a v.ts.length v.c v.s v.g) 96)
        have HLA := hide LA
        have hbw : b < wr.heap.size := by omega
        clear hS hT hx hL LA
        go_wp2_with fail
        refine (clone_any v _ HB.out ((HT.out.on HLA.out).up HLA.out.size)).mono ?_
        rintro e w1 ⟨v', rfl, hlike, hown, hb1⟩
        have L1 := hide (HLA.out.trans (hb1.mono HLA.out.size))
        have CR := HC.out.on L1.out
        have HLI := hide hlike
        have HOW := hide hown
        have z1 : wr.heap.size + 1 ≤ w1.heap.size := by have := hb1.size; simpa using this
        have HR := hide (show w1.ownsRow w.heap.size 96 6 u3 k (flat6 us) by have := CR.row; rw [HU.out] at this; exact this)
        clear s0 s1 s2 s3 s4 s5 hlike hown hb1 CR
        go_wp2_with (at_builtin; (refine wpList_append_lies _ rfl (.tmp 12) (.tmp 15) 33 rfl w.heap.size 96 i0 _ 6 72 Tryz.underlying33 I0.out I1.out I2.out I3.out rfl (by omega) u3 k (flat6 us) rfl (HR.out.alloc _) ⟨w1.heap.size, 0, none⟩ 1 1 (cells6 v') rfl rfl (World.news_of_block (cs := verC v'.k v'.t v'.u v'.a v'.ts.length v'.c v'.s v'.g) (by simpa using heap_alloc_new w1 (.cells (verC v'.k v'.t v'.u v'.a v'.ts.length v'.c v'.s v'.g) 96))) (by simp [cells6, Value.oneCell']) (by omega) (by unfold maxLen; omega) (by omega) (by simp; omega) _ rfl ?_; intro g2 cap2 w2 hown2 hgrow hat hlt2; have OW := hide hown2; have GW := hide hgrow; clear hown2 hgrow hat))
        refine ⟨⟨k + 1, us ++ [v'], by omega, by go_num, ?_, like_step HL.out HU.out HX.out HLI.out, ?_, ((hLL.trans (L1.out.mono hzz)).alloc (by omega) _).grown GW.out (by simp; omega) (fun r hr => (HC.out.typed r hr).elim fun _ h => h.2.1)⟩, by simp [intOf]; omega⟩
        · unfold Hid
          rw [List.length_append, HU.out]
          rfl
        · have hp := HC.out.push (w1 := w1.alloc (.cells (verC v'.k v'.t v'.u v'.a v'.ts.length v'.c v'.s v'.g) 96)) (B := wr.heap.size + 1) (v := v') (g := g2) (cap := cap2) (w2 := w2) (L1.out.trans ((below_alloc1 w1 _).mono L1.out.size)) (by omega) (((by simpa using HOW.out : Own1 w1 (wr.heap.size + 1) w1.heap.size v').on (below_alloc1 w1 _)).wide (by simp)) (by rw [HU.out]; exact OW.out) GW.out
          rw [HU.out] at hp
          exact hp
    · have hkn : k = n := by omega
      subst hkn
      clear hlt
      go_wp2
      go_ret
      exact ⟨_, us, rfl, HU.out.trans HN.out.symm, HL.out, HC.out, hLL⟩

/-- What a copy of a store is. -/
def CopiedStR (w : World) (vs : List V) (e : Ending) (w' : World) : Prop :=
  ∃ (x : Value) (us : List V), e = .returned (.agg #[x]) ∧ us.length = vs.length ∧ Like us vs ∧ CRow w.heap.size w' x us ∧ Below w.heap.size w w'
theorem CRow.down {base base' : Nat} {wr : World} {x : Value} {us : List V} (h : CRow base wr x us) (hb : base' ≤ base) : CRow base' wr x us :=
  ⟨⟨h.row.1, by
    rcases h.row.2 with h | ⟨g, cap, cr, h1, h2, h3⟩
    · exact .inl h
    · exact .inr ⟨g, cap, cr, h1, by omega, h3⟩⟩, fun i v hi => (h.own i v hi).low hb, h.apart, by have := h.lo; omega⟩
theorem store_ne_tag : (88 : TypeId) ≠ 91 := by decide

/-- What the round of copying a store holds. -/
theorem cheld {w w' : World} {n b off k c m : Nat} {v : V} {T : TypeId} {q : Nat × TypeId × Array Value} (Q : Hid (Six w b (off + k * 6) v)) (hb : b < w.heap.size)
    (h : Inv w n [q, (w.heap.size, T, #[.slice (some ⟨b, off, none⟩) m c])] w') :
    Six w' b (off + k * 6) v ∧ w'.cell? ⟨w.heap.size, 0, none⟩ = some (.slice (some ⟨b, off, none⟩) m c) ∧ Inv w n [q, (w.heap.size, T, #[.slice (some ⟨b, off, none⟩) m c])] w' :=
  ⟨Q.out.keep hb fun _ hp => h.below.cell hp, (h.nth 1 rfl).at 0, h⟩
set_option maxRecDepth 100000 in
set_option maxHeartbeats 8000000 in
theorem l2CopyStore_any (a : Option Addr) (c : Nat) (vs : List V) (w : World) (hn : vs.length ≤ 1048576) (hm : ∀ v ∈ vs, v.ts.length ≤ 1048576) (hv : Vg w w.heap.size a vs) :
    Calls Tryz.prog 88 #[.agg #[.slice a vs.length c]] w (CopiedStR w vs) := by
  obtain ⟨i0, hi0, hz0, hz1, hz2⟩ := info_parts ver_info
  have I0 := hide hi0
  have I1 := hide hz0
  have I2 := hide hz1
  have I3 := hide hz2
  clear hi0 hz0 hz1 hz2
  have HM := hide hm
  clear hm
  generalize hnn : vs.length = n at *
  have HN := hide hnn
  clear hnn
  have S0 := ((Inv.start w).box 88 #[.slice a n c]).box 88 #[.slice none 0 0]
  have V0 := Blk.made ((w.alloc (.cells #[.slice a n c] 88)).alloc (.cells #[.slice none 0 0] 88)) 88 #[.slice none 0 0]
  have S1 := S0.alloc (.cells #[.slice none 0 0] 88)
  simp only [World.size_alloc] at S1 V0
  have HC0 := hide (CRow.start (w.heap.size + 1 + 1 + 1) (((w.alloc (.cells #[.slice a n c] 88)).alloc (.cells #[.slice none 0 0] 88)).alloc (.cells #[.slice none 0 0] 88)) (by simp))
  clear S0
  go_enter Tryz.func88, Tryz.ntmps88
  go_wp2
  go_loopw [4] (fun i wr => ∃ (k : Nat) (x : Value) (us : List V), k ≤ n ∧ i = .int .i64 (k : Int) ∧ Blk wr (w.heap.size + 1 + 1) 88 #[x] ∧ Hid (us.length = k) ∧ Hid (Like us vs) ∧ Hid (CRow (w.heap.size + 1 + 1 + 1) wr x us) ∧ Inv w (w.heap.size + 1 + 1) [(w.heap.size + 1, 88, #[.slice none 0 0]), (w.heap.size, 88, #[.slice a n c])] wr) (fun i _ => n - (intOf i).toNat)
  case atStart => exact ⟨0, _, [], Nat.zero_le _, rfl, V0, rfl, fun i v v' hi => by simp at hi, HC0.out, S1⟩
  case round =>
    obtain ⟨k, x, us, hk, rfl, hV, HU, HL, HC, hI⟩ := hrel
    clear S1 V0 HC0
    by_cases hlt : k < n
    · rcases hv with h0 | ⟨b, off, rfl, hb, hx⟩
      · have := HN.out; subst h0; simp at this; omega
      · have hkl : k < vs.length := by have := HN.out; omega
        obtain ⟨hS, hT⟩ := hx k _ (List.getElem?_eq_getElem hkl)
        have HX := hide (List.getElem?_eq_getElem hkl)
        have Q := hide hS
        have HT := hide hT
        generalize vs[k] = v at Q HX HT
        have HB := hide (HM.out v (List.mem_of_getElem? HX.out))
        have jh := fun {w' : World} {n1 m1 : Nat} {q : Nat × TypeId × Array Value} => cheld (w := w) (w' := w') (n := n1) (m := m1) (q := q) (c := c) (T := 88) Q hb
        clear hx hS hT
        have k0 := (hI.nth 1 rfl).one.1
        have i1 : (0 : Int) ≤ (k : Int) := by omega
        have i2 : (k : Int) < (n : Int) := by omega
        obtain ⟨xa, xn, xc, rfl⟩ := HC.out.form
        have HV := hide (HC.out.typed)
        have hlo := HC.out.lo
        have V1 := hV.drew
        have q1 := V1.one.1
        have C1 := hide (HC.out.on (Below.refl _ _).drew)
        go_wp2_with fail
        clear k0
        refine wp_region_noPanic ?_
        refine wp_region_held_drew (S := (fun w' => Six w' b (off + k * 6) v ∧ w'.cell? ⟨w.heap.size, 0, none⟩ = some (.slice (some ⟨b, off, none⟩) n c) ∧ Inv w (w.heap.size + 1 + 1) [(w.heap.size + 1, 88, #[.slice none 0 0]), (w.heap.size, 88, #[.slice (some ⟨b, off, none⟩) n c])] w')) (by kernel_rfl) (by exact jh hI.drew) (fun hHeld => ?_)
        refine mvR 0 (some 13) hHeld ?_
        refine mvR 2 (some 15) hHeld ?_
        refine mvR 3 (some 16) hHeld ?_
        refine mvR 4 (some 17) hHeld ?_
        refine mvR 5 (some 18) hHeld ?_
        refine mvR 6 (some 19) hHeld ?_
        refine wpAnyH_ready (rs := [1, 7]) (by kernel_rfl) (by simp) ?_
        refine AllReadyH.cons rfl (fun K hK => ?_) (AllReadyH.cons rfl (fun K hK => ?_) AllReadyH.nil)
        · skip
          go_simp
          refine hK.out _ _ (by exact hHeld) (fun hHeld => ?_)
          clear hK K
          refine take_one 7 (by kernel_rfl) rfl (fun K hK => ?_)
          go_simp
          (refine (l2Copy_any v _ HB.out ((HT.out.on hHeld.2.2.below).up hHeld.2.2.base)).mono ?_; rintro e w1 ⟨v', rfl, hlike, hown, hb1⟩; have C2 := hide (C1.out.on hb1); have V2 := V1.on hb1; have HLI := hide hlike; have HOW := hide hown; have z1 : wr.heap.size ≤ w1.heap.size := (by have := hb1.size; simpa using this); have HR := hide (show w1.ownsRow (w.heap.size + 1 + 1 + 1) 96 6 (.slice xa xn xc) k (flat6 us) by have := C2.out.row; rw [HU.out] at this; exact this); have HB1 := hide hb1; have q2 := V2.one.1; have q4 := (V2.more (.cells (verC v'.k v'.t v'.u v'.a v'.ts.length v'.c v'.s v'.g) 96)).one.1)
          try go_wp2_with fail
          refine hK.out _ _ (by exact jh (hHeld.2.2.on HB1.out)) (fun hHeld => ?_)
          clear hK K
          refine take_one 8 (by kernel_rfl) rfl (fun K hK => ?_)
          go_simp
          refine hK.out _ _ (by exact jh (hHeld.2.2.alloc _)) (fun hHeld => ?_)
          clear hK K
          refine take_one 9 (by kernel_rfl) rfl (fun K hK => ?_)
          (refine step_append_lies _ (by rfl) _ _ _ (by rfl) (w.heap.size + 1 + 1 + 1) 96 i0 _ 6 72 Tryz.underlying33 I0.out I1.out I2.out I3.out rfl (by omega) (.slice xa xn xc) k (flat6 us) (by rfl) (HR.out.alloc _) ⟨w1.heap.size, 0, none⟩ 1 1 (cells6 v') (by rfl) (by rfl) (World.news_of_block (cs := verC v'.k v'.t v'.u v'.a v'.ts.length v'.c v'.s v'.g) (t := 96) (fr := (0, 0)) (heap_alloc_new w1 _)) (by simp [cells6, Value.oneCell']) (by omega) (by unfold maxLen; omega) (by omega) (by simp; omega) _ rfl ?_; intro g cap w2 hown2 hgrow hat hlt2; have V3 := (V2.more (.cells (verC v'.k v'.t v'.u v'.a v'.ts.length v'.c v'.s v'.g) 96)).kept hgrow (by intro e; have hq := HV.out _ e; obtain ⟨_, _, h1, _⟩ := hq; omega); have q3 := V3.one; have OW := hide hown2; have GW := hide hgrow; clear hown2)
          simp only [List.getElem_toArray, List.getElem_cons_zero, List.getElem_cons_succ, Act.put, List.setIfInBounds_toArray, List.set_cons_zero, List.set_cons_succ]
          refine hK.out _ _ (by exact jh (Inv.grow hHeld.2.2 hgrow (fun g' e => by have hq := HV.out _ e; obtain ⟨_, _, h1, _⟩ := hq; omega))) (fun hHeld => ?_)
          clear hK K
          refine mvR 10 (some 23) hHeld ?_
          refine take_one 11 (by kernel_rfl) rfl (fun K hK => ?_)
          go_simp
          refine hK.out _ _ (by exact jh (hHeld.2.2.set (by simp) (by simp; omega) _)) (fun hHeld => ?_)
          clear hK K
          refine wpAnyH_done (by kernel_rfl) ?_ _
          refine NoPanic.normal ?_
          have I9 := hHeld.2.2
          have C9 := HC.out.push (w1 := w1.alloc (.cells (verC v'.k v'.t v'.u v'.a v'.ts.length v'.c v'.s v'.g) 96)) (B := wr.heap.size) (v := v') (g := g) (cap := cap) (w2 := w2) (((Below.refl _ _).drew.trans (HB1.out.mono (Nat.le_refl _))).trans ((below_alloc1 w1 _).mono z1)) (Nat.le_refl _) ((HOW.out.on (below_alloc1 w1 _)).wide (by simp)) (by rw [HU.out]; exact OW.out) GW.out
          rw [HU.out] at C9
          have C10 := hide (C9.aside (p := ⟨w.heap.size + 1 + 1, 0, none⟩) V3 store_ne_tag (by simp only; omega) (.slice (some ⟨g, 0, none⟩) (k + 1) cap))
          have V9 := V3.put 0 (.slice (some ⟨g, 0, none⟩) (k + 1) cap)
          have HL9 := hide (like_step HL.out HU.out HX.out HLI.out)
          have HU9 : Hid ((us ++ [v']).length = k + 1) := (by unfold Hid; rw [List.length_append, HU.out]; rfl)
          clear hHeld V3 q3 q1 q2 q4 V1 V2 C9 C1 C2 HC
          go_wp2
          exact ⟨⟨k + 1, _, _, by omega, by go_num, V9, HU9, HL9, C10, I9⟩, by simp [intOf]; omega⟩
        · skip
          go_simp
          (refine (l2Copy_any v _ HB.out ((HT.out.on hHeld.2.2.below).up hHeld.2.2.base)).mono ?_; rintro e w1 ⟨v', rfl, hlike, hown, hb1⟩; have C2 := hide (C1.out.on hb1); have V2 := V1.on hb1; have HLI := hide hlike; have HOW := hide hown; have z1 : wr.heap.size ≤ w1.heap.size := (by have := hb1.size; simpa using this); have HR := hide (show w1.ownsRow (w.heap.size + 1 + 1 + 1) 96 6 (.slice xa xn xc) k (flat6 us) by have := C2.out.row; rw [HU.out] at this; exact this); have HB1 := hide hb1; have q2 := V2.one.1; have q4 := (V2.more (.cells (verC v'.k v'.t v'.u v'.a v'.ts.length v'.c v'.s v'.g) 96)).one.1)
          try go_wp2_with fail
          refine hK.out _ _ (by exact jh (hHeld.2.2.on HB1.out)) (fun hHeld => ?_)
          clear hK K
          refine wpAnyH_ready (rs := [1, 8]) (by kernel_rfl) (by simp) ?_
          refine AllReadyH.cons rfl (fun K hK => ?_) (AllReadyH.cons rfl (fun K hK => ?_) AllReadyH.nil)
          · skip
            go_simp
            refine hK.out _ _ (by exact hHeld) (fun hHeld => ?_)
            clear hK K
            refine take_one 8 (by kernel_rfl) rfl (fun K hK => ?_)
            go_simp
            refine hK.out _ _ (by exact jh (hHeld.2.2.alloc _)) (fun hHeld => ?_)
            clear hK K
            refine take_one 9 (by kernel_rfl) rfl (fun K hK => ?_)
            (refine step_append_lies _ (by rfl) _ _ _ (by rfl) (w.heap.size + 1 + 1 + 1) 96 i0 _ 6 72 Tryz.underlying33 I0.out I1.out I2.out I3.out rfl (by omega) (.slice xa xn xc) k (flat6 us) (by rfl) (HR.out.alloc _) ⟨w1.heap.size, 0, none⟩ 1 1 (cells6 v') (by rfl) (by rfl) (World.news_of_block (cs := verC v'.k v'.t v'.u v'.a v'.ts.length v'.c v'.s v'.g) (t := 96) (fr := (0, 0)) (heap_alloc_new w1 _)) (by simp [cells6, Value.oneCell']) (by omega) (by unfold maxLen; omega) (by omega) (by simp; omega) _ rfl ?_; intro g cap w2 hown2 hgrow hat hlt2; have V3 := (V2.more (.cells (verC v'.k v'.t v'.u v'.a v'.ts.length v'.c v'.s v'.g) 96)).kept hgrow (by intro e; have hq := HV.out _ e; obtain ⟨_, _, h1, _⟩ := hq; omega); have q3 := V3.one; have OW := hide hown2; have GW := hide hgrow; clear hown2)
            simp only [List.getElem_toArray, List.getElem_cons_zero, List.getElem_cons_succ, Act.put, List.setIfInBounds_toArray, List.set_cons_zero, List.set_cons_succ]
            refine hK.out _ _ (by exact jh (Inv.grow hHeld.2.2 hgrow (fun g' e => by have hq := HV.out _ e; obtain ⟨_, _, h1, _⟩ := hq; omega))) (fun hHeld => ?_)
            clear hK K
            refine mvR 10 (some 23) hHeld ?_
            refine take_one 11 (by kernel_rfl) rfl (fun K hK => ?_)
            go_simp
            refine hK.out _ _ (by exact jh (hHeld.2.2.set (by simp) (by simp; omega) _)) (fun hHeld => ?_)
            clear hK K
            refine wpAnyH_done (by kernel_rfl) ?_ _
            refine NoPanic.normal ?_
            have I9 := hHeld.2.2
            have C9 := HC.out.push (w1 := w1.alloc (.cells (verC v'.k v'.t v'.u v'.a v'.ts.length v'.c v'.s v'.g) 96)) (B := wr.heap.size) (v := v') (g := g) (cap := cap) (w2 := w2) (((Below.refl _ _).drew.trans (HB1.out.mono (Nat.le_refl _))).trans ((below_alloc1 w1 _).mono z1)) (Nat.le_refl _) ((HOW.out.on (below_alloc1 w1 _)).wide (by simp)) (by rw [HU.out]; exact OW.out) GW.out
            rw [HU.out] at C9
            have C10 := hide (C9.aside (p := ⟨w.heap.size + 1 + 1, 0, none⟩) V3 store_ne_tag (by simp only; omega) (.slice (some ⟨g, 0, none⟩) (k + 1) cap))
            have V9 := V3.put 0 (.slice (some ⟨g, 0, none⟩) (k + 1) cap)
            have HL9 := hide (like_step HL.out HU.out HX.out HLI.out)
            have HU9 : Hid ((us ++ [v']).length = k + 1) := (by unfold Hid; rw [List.length_append, HU.out]; rfl)
            clear hHeld V3 q3 q1 q2 q4 V1 V2 C9 C1 C2 HC
            go_wp2
            exact ⟨⟨k + 1, _, _, by omega, by go_num, V9, HU9, HL9, C10, I9⟩, by simp [intOf]; omega⟩
          · skip
            go_simp
            refine hK.out _ _ (by exact jh (hHeld.2.2.alloc _)) (fun hHeld => ?_)
            clear hK K
            refine take_one 1 (by kernel_rfl) rfl (fun K hK => ?_)
            go_simp
            refine hK.out _ _ (by exact hHeld) (fun hHeld => ?_)
            clear hK K
            refine take_one 9 (by kernel_rfl) rfl (fun K hK => ?_)
            (refine step_append_lies _ (by rfl) _ _ _ (by rfl) (w.heap.size + 1 + 1 + 1) 96 i0 _ 6 72 Tryz.underlying33 I0.out I1.out I2.out I3.out rfl (by omega) (.slice xa xn xc) k (flat6 us) (by rfl) (HR.out.alloc _) ⟨w1.heap.size, 0, none⟩ 1 1 (cells6 v') (by rfl) (by rfl) (World.news_of_block (cs := verC v'.k v'.t v'.u v'.a v'.ts.length v'.c v'.s v'.g) (t := 96) (fr := (0, 0)) (heap_alloc_new w1 _)) (by simp [cells6, Value.oneCell']) (by omega) (by unfold maxLen; omega) (by omega) (by simp; omega) _ rfl ?_; intro g cap w2 hown2 hgrow hat hlt2; have V3 := (V2.more (.cells (verC v'.k v'.t v'.u v'.a v'.ts.length v'.c v'.s v'.g) 96)).kept hgrow (by intro e; have hq := HV.out _ e; obtain ⟨_, _, h1, _⟩ := hq; omega); have q3 := V3.one; have OW := hide hown2; have GW := hide hgrow; clear hown2)
            simp only [List.getElem_toArray, List.getElem_cons_zero, List.getElem_cons_succ, Act.put, List.setIfInBounds_toArray, List.set_cons_zero, List.set_cons_succ]
            refine hK.out _ _ (by exact jh (Inv.grow hHeld.2.2 hgrow (fun g' e => by have hq := HV.out _ e; obtain ⟨_, _, h1, _⟩ := hq; omega))) (fun hHeld => ?_)
            clear hK K
            refine mvR 10 (some 23) hHeld ?_
            refine take_one 11 (by kernel_rfl) rfl (fun K hK => ?_)
            go_simp
            refine hK.out _ _ (by exact jh (hHeld.2.2.set (by simp) (by simp; omega) _)) (fun hHeld => ?_)
            clear hK K
            refine wpAnyH_done (by kernel_rfl) ?_ _
            refine NoPanic.normal ?_
            have I9 := hHeld.2.2
            have C9 := HC.out.push (w1 := w1.alloc (.cells (verC v'.k v'.t v'.u v'.a v'.ts.length v'.c v'.s v'.g) 96)) (B := wr.heap.size) (v := v') (g := g) (cap := cap) (w2 := w2) (((Below.refl _ _).drew.trans (HB1.out.mono (Nat.le_refl _))).trans ((below_alloc1 w1 _).mono z1)) (Nat.le_refl _) ((HOW.out.on (below_alloc1 w1 _)).wide (by simp)) (by rw [HU.out]; exact OW.out) GW.out
            rw [HU.out] at C9
            have C10 := hide (C9.aside (p := ⟨w.heap.size + 1 + 1, 0, none⟩) V3 store_ne_tag (by simp only; omega) (.slice (some ⟨g, 0, none⟩) (k + 1) cap))
            have V9 := V3.put 0 (.slice (some ⟨g, 0, none⟩) (k + 1) cap)
            have HL9 := hide (like_step HL.out HU.out HX.out HLI.out)
            have HU9 : Hid ((us ++ [v']).length = k + 1) := (by unfold Hid; rw [List.length_append, HU.out]; rfl)
            clear hHeld V3 q3 q1 q2 q4 V1 V2 C9 C1 C2 HC
            go_wp2
            exact ⟨⟨k + 1, _, _, by omega, by go_num, V9, HU9, HL9, C10, I9⟩, by simp [intOf]; omega⟩
    · have hkn : k = n := by omega
      subst hkn
      clear hlt
      obtain ⟨xa, xn, xc, rfl⟩ := HC.out.form
      have q0 := hV.one
      have q1 := (hI.nth 0 rfl).one
      have q5 := (hI.nth 1 rfl).one
      have hL := hI.below
      have B1 := hI.nth 0 rfl
      go_wp2
      refine bodyPost_ret (v := .agg #[.slice xa xn xc]) (by simp [results, Tryz.results88, go_sem, q1]) rfl ?_
      exact ⟨_, us, rfl, HU.out.trans HN.out.symm, HL.out, (HC.out.aside (p := ⟨w.heap.size + 1, 0, none⟩) B1 store_ne_tag (by simp only; omega) _).down (by omega), hL.setCell (by simp) _⟩
end Go.Proofs.YtnaggcdhimcilaaGreat
