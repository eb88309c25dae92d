/- Contracts of the functions that copy a version, of program and model. Condition: at most 1048576 causes. -/
import Derived.Test.YtgofeljmpkhkbaaStoreCopy
import Derived.Test.YtgofeljmpkhkbaaPastRes
import Derived.Deep.AppendLies
namespace Go.Proofs.Ytgofeljmpkhkbaa
open Go.RowKit Go.Joins

theorem flatT_len (ts : List (Int × Int)) : (flatT ts).length = ts.length * 2 := by
  induction ts with
  | nil => rfl
  | cons x r ih => simp [flatT] at *; omega
theorem flatT_get : ∀ (ts : List (Int × Int)) (j : Nat) (u : Value), (flatT ts)[j]? = some u → ∃ (i : Nat) (x : Int × Int), ts[i]? = some x ∧ (j = i * 2 ∧ u = .int .i64 x.1 ∨ j = i * 2 + 1 ∧ u = .int .i64 x.2)
  | [], j, u, h => by simp [flatT] at h
  | x :: r, 0, u, h => ⟨0, x, rfl, .inl ⟨rfl, by simp [flatT] at h; exact h.symm⟩⟩
  | x :: r, 1, u, h => ⟨0, x, rfl, .inr ⟨rfl, by simp [flatT] at h; exact h.symm⟩⟩
  | x :: r, j + 2, u, h => by
    have h' : (flatT r)[j]? = some u := by
      have e : flatT (x :: r) = .int .i64 x.1 :: .int .i64 x.2 :: flatT r := by simp [flatT]
      rw [e] at h
      simpa using h
    obtain ⟨i, y, h1, h2⟩ := flatT_get r j u h'
    rcases h2 with ⟨h2, q⟩ | ⟨h2, q⟩
    · exact ⟨i + 1, y, by simpa using h1, .inl ⟨by omega, q⟩⟩
    · exact ⟨i + 1, y, by simpa using h1, .inr ⟨by omega, q⟩⟩
theorem tg_news {w : World} {b off : Nat} {ts : List (Int × Int)} (hx : ∀ (i : Nat) x, ts[i]? = some x → w.cell? ⟨b, off + i * 2, none⟩ = some (.int .i64 x.1) ∧ w.cell? ⟨b, off + i * 2 + 1, none⟩ = some (.int .i64 x.2)) (j : Nat) (u : Value) (hj : (flatT ts)[j]? = some u) :
    w.cell? ((⟨b, off, none⟩ : Addr).add j) = some u := by
  have hadd : (⟨b, off, none⟩ : Addr).add j = ⟨b, off + j, none⟩ := by unfold Addr.add; split <;> simp_all
  rw [hadd]
  obtain ⟨i, x, h1, h2 | h2⟩ := flatT_get ts j u hj
  · obtain ⟨rfl, rfl⟩ := h2
    exact (hx i x h1).1
  · obtain ⟨rfl, rfl⟩ := h2
    exact (hx i x h1).2

theorem flat_tagsV {cur : Array Value} {p : List (Int × Int)} {m : Nat} (h : cur.toList.take m = flatT p) : ∀ i x, p[i]? = some x → TagAt cur i x := by
  intro i x hx
  obtain ⟨h0, h1⟩ := flatT_at p i x hx
  rw [← h] at h0 h1
  refine ⟨?_, ?_⟩
  · obtain ⟨hl, _⟩ := List.getElem?_eq_some_iff.1 h0
    rw [List.length_take] at hl
    rw [List.getElem?_take_of_lt (by omega)] at h0
    simpa using h0
  · obtain ⟨hl, _⟩ := List.getElem?_eq_some_iff.1 h1
    rw [List.length_take] at hl
    rw [List.getElem?_take_of_lt (by omega)] at h1
    simpa using h1
theorem own_row {w : World} {base g cap n : Nat} {ts : List (Int × Int)} (h : w.ownsRow base 27 2 (.slice (some ⟨g, 0, none⟩) n cap) n (flatT ts)) : ∃ cur, base ≤ g ∧ Blk w g 27 cur ∧ n * 2 ≤ cur.size ∧ ∀ i x, ts[i]? = some x → TagAt cur i x := by
  rcases h.2 with ⟨h, _⟩ | ⟨g', cap', cur, h, hg', hb', hn', hm', hs', ht'⟩
  · cases h
  · injection h with h1 h2 h3
    injection h1 with h1
    injection h1 with h1
    subst h1
    exact ⟨cur, hg', hb', by omega, flat_tagsV ht'⟩

/-- What a copy of a version is. -/
def Cloned (w : World) (v : V) (e : Ending) (w' : World) : Prop :=
  ∃ v' : V, e = .returned (.agg (verC v'.k v'.t v'.u v'.a v'.ts.length v'.c v'.s v'.g)) ∧ V.like v' v ∧ Own1 w' w.heap.size w'.heap.size v' ∧ Below w.heap.size w w'

set_option maxRecDepth 100000 in
set_option maxHeartbeats 2000000 in
theorem clone_any (v : V) (w : World) (hn : v.ts.length ≤ 1048576) (ht : Tg w w.heap.size v.a v.ts) :
    Calls Try.prog 52 #[.agg (verC v.k v.t v.u v.a v.ts.length v.c v.s v.g)] w (Cloned w v) := by
  obtain ⟨k, t, u, a, c, ts, s, g⟩ := v
  simp only at hn ht ⊢
  have S0 := ((Inv.start w).box 32 (verC k t u a ts.length c s g)).box 32 (verC 0 0 0 none 0 0 ⟨#[]⟩ false)
  simp only [World.size_alloc] at S0
  obtain ⟨i0, hi0, hz0, hz1, hz2⟩ := info_parts tag_info
  have I0 := hide hi0
  have I1 := hide hz0
  have I2 := hide hz1
  have I3 := hide hz2
  clear hi0 hz0 hz1 hz2
  rcases ht with h0 | ⟨b, off, rfl, hb, hx⟩
  · subst h0
    cases a
    all_goals
      go_enter Try.func52, Try.ntmps52
      go_wp2
      refine bodyPost_ret (v := .agg (verC k t u none 0 0 s g)) (by simp [results, Try.results52, go_sem]) rfl ?_
      exact ⟨⟨k, t, u, none, 0, [], s, g⟩, rfl, ⟨rfl, rfl, rfl, rfl, rfl, rfl⟩, .inl rfl, by first | exact S0.below | exact below_alloc2 _ _ _⟩
  · by_cases h0 : ts = []
    · subst h0
      go_enter Try.func52, Try.ntmps52
      go_wp2
      refine bodyPost_ret (v := .agg (verC k t u none 0 0 s g)) (by simp [results, Try.results52, go_sem]) rfl ?_
      exact ⟨⟨k, t, u, none, 0, [], s, g⟩, rfl, ⟨rfl, rfl, rfl, rfl, rfl, rfl⟩, .inl rfl, by first | exact S0.below | exact below_alloc2 _ _ _⟩
    · have hpos : 0 < ts.length := List.length_pos_iff.2 h0
      have HNEWS := hide (tg_news (w := (w.alloc (.cells (verC k t u (some ⟨b, off, none⟩) ts.length c s g) 32)).alloc (.cells (verC 0 0 0 none 0 0 ⟨#[]⟩ false) 32)) (b := b) (off := off) (ts := ts) (fun i x hi => ⟨(S0.below.cell (p := ⟨b, off + i * 2, none⟩) hb).trans (hx i x hi).1, (S0.below.cell (p := ⟨b, off + i * 2 + 1, none⟩) hb).trans (hx i x hi).2⟩))
      have HFL := hide (flatT_len ts)
      have HO0 := hide (World.ownsRow_nil ((w.alloc (.cells (verC k t u (some ⟨b, off, none⟩) ts.length c s g) 32)).alloc (.cells (verC 0 0 0 none 0 0 ⟨#[]⟩ false) 32)) (w.heap.size + 1 + 1) 27 2)
      clear hx h0
      generalize hnn : ts.length = n at *
      have HN := hide hnn
      clear hnn
      go_enter Try.func52, Try.ntmps52
      go_wp2_with (at_builtin; (refine wpList_append_lies _ rfl (.const (.slice none 0 0)) (.tmp 5) 28 rfl (w.heap.size + 1 + 1) 27 i0 _ 2 16 Try.underlying28 I0.out I1.out I2.out I3.out rfl (by omega) (.slice none 0 0) 0 [] rfl HO0.out ⟨b, off, none⟩ n c (flatT ts) rfl HFL.out HNEWS.out (flatT_one ts) hpos (by unfold maxLen; omega) (by omega) (by simp) _ rfl ?_; intro g2 cap2 w5 hown hgrow hat hlt2; have S5 := S0.part hgrow (fun g' e => by simp [Value.ownBlock] at e) (fun x hx g' e => by simp [Value.ownBlock] at e); have OW := hide hown; have q5 := (S5.nth 1 rfl).six; have q6 := (S5.nth 0 rfl).six; have z5 := S5.room; clear hown hgrow hat))
      simp only [Nat.zero_add] at OW ⊢
      refine bodyPost_ret (v := .agg (verC k t u (some ⟨g2, 0, none⟩) n cap2 s g)) (by simp [results, Try.results52, go_sem, q6]) rfl ?_
      obtain ⟨cur, hg0, hblk, hcs, hca⟩ := own_row (by simpa using OW.out)
      have hl := S5.below
      exact ⟨⟨k, t, u, some ⟨g2, 0, none⟩, cap2, ts, s, g⟩, by simp only [HN.out], ⟨rfl, rfl, rfl, rfl, rfl, rfl⟩, .inr ⟨g2, cur, rfl, by omega, by simpa [World.setCell] using hblk.inside, (((((((hblk.aside (by simp; omega) _).aside (by simp; omega) _).aside (by simp; omega) _).aside (by simp; omega) _).aside (by simp; omega) _).aside (by simp; omega) _).aside (by simp; omega) _), by simp only [HN.out]; exact hcs, hca⟩, below_set6 (hl.setCell (by simp) _) (by omega) _ _ _ _ _ _⟩
set_option maxRecDepth 100000 in
set_option maxHeartbeats 2000000 in
theorem l2Copy_any (v : V) (w : World) (hn : v.ts.length ≤ 1048576) (ht : Tg w w.heap.size v.a v.ts) :
    Calls Try.prog 58 #[.agg (verC v.k v.t v.u v.a v.ts.length v.c v.s v.g)] w (Cloned w v) := by
  obtain ⟨k, t, u, a, c, ts, s, g⟩ := v
  simp only at hn ht ⊢
  have S0 := ((Inv.start w).box 32 (verC k t u a ts.length c s g)).box 32 (verC 0 0 0 none 0 0 ⟨#[]⟩ false)
  simp only [World.size_alloc] at S0
  obtain ⟨i0, hi0, hz0, hz1, hz2⟩ := info_parts tag_info
  have I0 := hide hi0
  have I1 := hide hz0
  have I2 := hide hz1
  have I3 := hide hz2
  clear hi0 hz0 hz1 hz2
  have S1 := S0.alloc (.cells #[] 27)
  rcases ht with h0 | ⟨b, off, rfl, hb, hx⟩
  · subst h0
    cases a
    all_goals
      go_enter Try.func58, Try.ntmps58
      go_wp2
      refine bodyPost_ret (v := .agg (verC k t u (some ⟨w.heap.size + 1 + 1, 0, none⟩) 0 0 s g)) (by simp [results, Try.results58, go_sem]) rfl ?_
      exact ⟨⟨k, t, u, some ⟨w.heap.size + 1 + 1, 0, none⟩, 0, [], s, g⟩, rfl, ⟨rfl, rfl, rfl, rfl, rfl, rfl⟩, .inl rfl, by first | exact S1.below | exact ((below_alloc2 _ _ _).alloc (by simp; omega) _) | exact below_set6 (((below_alloc2 _ _ _).alloc (by simp; omega) _).setCell (by simp) _) (by omega) _ _ _ _ _ _⟩
  · by_cases h0 : ts = []
    · subst h0
      go_enter Try.func58, Try.ntmps58
      go_wp2
      refine bodyPost_ret (v := .agg (verC k t u (some ⟨w.heap.size + 1 + 1, 0, none⟩) 0 0 s g)) (by simp [results, Try.results58, go_sem]) rfl ?_
      exact ⟨⟨k, t, u, some ⟨w.heap.size + 1 + 1, 0, none⟩, 0, [], s, g⟩, rfl, ⟨rfl, rfl, rfl, rfl, rfl, rfl⟩, .inl rfl, by first | exact S1.below | exact ((below_alloc2 _ _ _).alloc (by simp; omega) _) | exact below_set6 (((below_alloc2 _ _ _).alloc (by simp; omega) _).setCell (by simp) _) (by omega) _ _ _ _ _ _⟩
    · have hpos : 0 < ts.length := List.length_pos_iff.2 h0
      have BE := Blk.made ((w.alloc (.cells (verC k t u (some ⟨b, off, none⟩) ts.length c s g) 32)).alloc (.cells (verC 0 0 0 none 0 0 ⟨#[]⟩ false) 32)) 27 #[]
      simp only [World.size_alloc] at BE
      have O0 : (((w.alloc (.cells (verC k t u (some ⟨b, off, none⟩) ts.length c s g) 32)).alloc (.cells (verC 0 0 0 none 0 0 ⟨#[]⟩ false) 32)).alloc (.cells #[] 27)).ownsRow (w.heap.size + 1 + 1) 27 2 (.slice (some ⟨w.heap.size + 1 + 1, 0, none⟩) 0 0) 0 [] :=
        ⟨rfl, .inr ⟨w.heap.size + 1 + 1, 0, #[], rfl, Nat.le_refl _, BE, Nat.le_refl _, Nat.zero_le _, rfl, rfl⟩⟩
      have HNEWS := hide (tg_news (w := ((w.alloc (.cells (verC k t u (some ⟨b, off, none⟩) ts.length c s g) 32)).alloc (.cells (verC 0 0 0 none 0 0 ⟨#[]⟩ false) 32)).alloc (.cells #[] 27)) (b := b) (off := off) (ts := ts) (fun i x hi => ⟨(S1.below.cell (p := ⟨b, off + i * 2, none⟩) hb).trans (hx i x hi).1, (S1.below.cell (p := ⟨b, off + i * 2 + 1, none⟩) hb).trans (hx i x hi).2⟩))
      have HFL := hide (flatT_len ts)
      have HO0 := hide O0
      clear hx h0 O0 BE
      generalize hnn : ts.length = n at *
      have HN := hide hnn
      clear hnn
      go_enter Try.func58, Try.ntmps58
      go_wp2_with (at_builtin; (refine wpList_append_lies _ rfl (.tmp 3) (.tmp 6) 28 rfl (w.heap.size + 1 + 1) 27 i0 _ 2 16 Try.underlying28 I0.out I1.out I2.out I3.out rfl (by omega) (.slice (some ⟨w.heap.size + 1 + 1, 0, none⟩) 0 0) 0 [] rfl HO0.out ⟨b, off, none⟩ n c (flatT ts) rfl HFL.out HNEWS.out (flatT_one ts) hpos (by unfold maxLen; omega) (by omega) (by simp) _ rfl ?_; intro g2 cap2 w5 hown hgrow hat hlt2; have S5 := S1.part hgrow (fun g' e => by simp [Value.ownBlock] at e; omega) (fun x hx g' e => by { simp [Value.ownBlock] at e; have := (S0.blk x hx).2.1; omega }); have OW := hide hown; have q5 := (S5.nth 1 rfl).six; have q6 := (S5.nth 0 rfl).six; have z5 := S5.room; clear hown hgrow hat))
      simp only [Nat.zero_add] at OW ⊢
      refine bodyPost_ret (v := .agg (verC k t u (some ⟨g2, 0, none⟩) n cap2 s g)) (by simp [results, Try.results58, go_sem, q6]) rfl ?_
      obtain ⟨cur, hg0, hblk, hcs, hca⟩ := own_row (by simpa using OW.out)
      have hl := S5.below
      exact ⟨⟨k, t, u, some ⟨g2, 0, none⟩, cap2, ts, s, g⟩, by simp only [HN.out], ⟨rfl, rfl, rfl, rfl, rfl, rfl⟩, .inr ⟨g2, cur, rfl, by omega, by simpa [World.setCell] using hblk.inside, (((((((hblk.aside (by simp; omega) _).aside (by simp; omega) _).aside (by simp; omega) _).aside (by simp; omega) _).aside (by simp; omega) _).aside (by simp; omega) _).aside (by simp; omega) _), by simp only [HN.out]; exact hcs, hca⟩, below_set6 (hl.setCell (by simp) _) (by omega) _ _ _ _ _ _⟩
end Go.Proofs.Ytgofeljmpkhkbaa
