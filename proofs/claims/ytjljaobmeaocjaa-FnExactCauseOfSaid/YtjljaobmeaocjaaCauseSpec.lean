/- Contract of the model's CauseOf. Condition: at most 1048576 records, a slice that is no longer than its room. -/
import Derived.Test.YtjljaobmeaocjaaCauses
import Derived.Test.YtjljaobmeaocjaaHistSees2
namespace Go.Proofs.Ytjljaobmeaocjaa
open Go.RowKit Go.Joins

set_option maxHeartbeats 4000000 in
theorem l8At_ok (a : Option Addr) (c : Nat) (ds : List D) (st : St) (t u : Int) (w : World) (hn : ds.length ≤ 1048576) (hc : ds.length ≤ c) (ho : histOk ds = true) (hr : Runs ds st) (hd : Dg w w.heap.size a ds) :
    Calls Try.prog 73 #[.slice a ds.length c, .agg #[.int .i64 t, .int .i64 u]] w (WroteS w (wrote st t u)) := by
  have S0 := ((Inv.start w).box 43 #[.int .i64 t, .int .i64 u]).box 35 #[.slice none 0 0]
  simp only [World.size_alloc] at S0
  have HF := hide (histOk_form ho)
  have HST := hide hr
  clear ho hr
  go_enter Try.func73, Try.ntmps73
  go_wp2_with fail
  generalize (w.alloc (.cells #[.int .i64 t, .int .i64 u] 43)).alloc (.cells #[.slice none 0 0] 35) = W at S0 ⊢
  refine (l6Walk_any a c ds W HF.out hc ((hd.on S0.below).up S0.base)).mono ?_
  rintro e w3 ⟨k, st', gs, cap, rfl, hk, hR, hlen, g1, g2, g3, hb3⟩
  have hst : st' = st := by
    have h1 : farH ds = ds.length := far_all HST.out
    rw [← hk, h1, List.take_length] at hR
    have h2 := HST.out
    unfold Runs at hR h2
    rw [h2] at hR
    injection hR with hR
    exact hR.symm
  subst hst
  have hkl : k = ds.length := by rw [← hk]; exact far_all HST.out
  subst hkl
  have S3 := S0.on hb3
  have q3 := (S3.nth 1 rfl).two
  have C := l6Wrote_any a c gs cap st'.2 t u w3 (by omega) (by rw [HST.out.recs]; exact (hd.on S3.below).up S3.base) g2 (fun j x hx => (g3 j x hx).bare)
  rw [hlen] at C
  have HC := hide C
  clear C hk hR hlen g3 hb3 S0
  go_wp2_with fail
  refine HC.out.mono ?_
  rintro e w4 hw4
  obtain ⟨A, m, c4, rfl, hb4, hA⟩ := wrote_any hw4
  have HA := hide hA
  have S4 := S3.on hb4
  have q4 := (S4.nth 0 rfl).one
  have B4 := S4.nth 0 rfl
  clear HC S3 q3 hA
  obtain ⟨h1, h2, -⟩ := hw4
  have H1 := hide h1
  have H2 := hide h2
  clear h1 h2
  generalize hrr : st'.2.find? (isW t u) = r at *
  have HRR : Hid (wrote st' t u = r) := hrr
  clear hrr
  generalize hbb : r.isSome = bb at *
  have HBB := hide hbb
  clear hbb
  go_wp2
  refine bodyPost_ret (v := .tuple #[.agg #[.slice A m c4], .bool bb]) (by simp [results, Try.results73, go_sem, q4]) rfl ?_
  have hL := S4.below.setCell (p := ⟨w.heap.size + 1, 0, none⟩) (by simp) (.slice A m c4)
  refine ⟨fun hz' => ?_, fun x hx => ?_, hL⟩
  · have e0 := H1.out (by rw [← HRR.out]; exact hz')
    rw [e0]
  · obtain ⟨g, c5, e0, ht⟩ := H2.out x (by rw [← HRR.out]; exact hx)
    exact ⟨g, c5, e0, ht.tk (.set (p := ⟨w.heap.size + 1, 0, none⟩) B4 past_ne_tag _)⟩
theorem TB.news {W : World} {g : Nat} {p : T4} (h : TB W g p) (j : Nat) (u' : Value) (hj : (flatT p)[j]? = some u') : W.cell? ((⟨g, 0, none⟩ : Addr).add j) = some u' := by
  have hadd : (⟨g, 0, none⟩ : Addr).add j = ⟨g, j, none⟩ := by unfold Addr.add; split <;> simp_all
  rw [hadd]
  obtain ⟨x0, x1, x2, x3, rfl⟩ := four_len h.len
  have g0 := h.cells (i := 0) rfl
  have g1 := h.cells (i := 1) rfl
  have g2 := h.cells (i := 2) rfl
  have g3 := h.cells (i := 3) rfl
  match j, hj with
  | 0, hj => simp [flatT] at hj; subst hj; simpa using g0.1
  | 1, hj => simp [flatT] at hj; subst hj; simpa using g0.2
  | 2, hj => simp [flatT] at hj; subst hj; simpa using g1.1
  | 3, hj => simp [flatT] at hj; subst hj; simpa using g1.2
  | 4, hj => simp [flatT] at hj; subst hj; simpa using g2.1
  | 5, hj => simp [flatT] at hj; subst hj; simpa using g2.2
  | 6, hj => simp [flatT] at hj; subst hj; simpa using g3.1
  | 7, hj => simp [flatT] at hj; subst hj; simpa using g3.2
  | n + 8, hj => simp [flatT] at hj
theorem flatT_four {p : T4} (h : p.length = 4) : (flatT p).length = 4 * 2 := by
  obtain ⟨x0, x1, x2, x3, rfl⟩ := four_len h
  rfl

set_option maxRecDepth 100000 in
set_option maxHeartbeats 4000000 in
theorem specCauseOf_any (a : Option Addr) (c : Nat) (ds : List D) (t u : Int) (w : World) (hn : ds.length ≤ 1048576) (hc : ds.length ≤ c) (hd : Dg w w.heap.size a ds) :
    Calls Try.prog 39 #[.slice a ds.length c, .agg #[.int .i64 t, .int .i64 u]] w (Answer2 w (causeO ds t u)) := by
  obtain ⟨i0, hi0, hz0, hz1, hz2⟩ := info_parts tag_info
  have I0 := hide hi0
  have I1 := hide hz0
  have I2 := hide hz1
  have I3 := hide hz2
  clear hi0 hz0 hz1 hz2
  have S0 := ((Inv.start w).box 43 #[.int .i64 t, .int .i64 u]).box 35 #[.slice none 0 0]
  simp only [World.size_alloc] at S0
  cases ho : histOk ds
  · have HO := hide ho
    have HE := hide (causeO_bad (t := t) (u := u) ho)
    clear ho
    go_enter Try.func39, Try.ntmps39
    go_wp2_with fail
    generalize (w.alloc (.cells #[.int .i64 t, .int .i64 u] 43)).alloc (.cells #[.slice none 0 0] 35) = W at S0 ⊢
    refine (l6Ok_any a c ds W hn hc ((hd.on S0.below).up S0.base)).mono ?_
    rintro e w1 ⟨rfl, hb1⟩
    rw [HO.out]
    have S1 := S0.on hb1
    have q1 := (S1.nth 0 rfl).one
    clear S0
    go_wp2
    refine bodyPost_ret (v := .tuple #[.agg #[.slice none 0 0], .bool false]) (by simp [results, Try.results39, go_sem, q1]) rfl ?_
    exact answer2_nil HE.out (S1.below.setCell (by simp) _)
  · have HO := hide ho
    obtain ⟨st, hst⟩ := histOk_runs ho
    have HST := hide hst
    clear ho hst
    go_enter Try.func39, Try.ntmps39
    go_wp2_with fail
    generalize (w.alloc (.cells #[.int .i64 t, .int .i64 u] 43)).alloc (.cells #[.slice none 0 0] 35) = W at S0 ⊢
    refine (l6Ok_any a c ds W hn hc ((hd.on S0.below).up S0.base)).mono ?_
    rintro e w1 ⟨rfl, hb1⟩
    rw [HO.out]
    have S1 := S0.on hb1
    have q1 := (S1.nth 1 rfl).two
    clear S0
    go_wp2_with fail
    refine (l8At_ok a c ds st t u w1 hn hc HO.out HST.out ((hd.on S1.below).up S1.base)).mono ?_
    rintro e w2 ⟨h1, h2, hb2⟩
    cases hw : wrote st t u with
    | none =>
      have he := h1 hw
      subst he
      have HE := hide (causeO_none HO.out HST.out hw)
      have S2 := ((S1.on hb2).top).box 35 #[.slice none 0 0]
      have q2 := (S2.nth 1 rfl).one
      have z1 := S1.room
      have z2 := hb2.size
      clear h1 h2 hw S1 q1
      go_wp2
      refine bodyPost_ret (v := .tuple #[.agg #[.slice none 0 0], .bool false]) (by simp [results, Try.results39, go_sem, q2]) rfl ?_
      exact answer2_nil HE.out (S2.below.setCell (by simp) _)
    | some x =>
      obtain ⟨g, cg, he, htb⟩ := h2 x hw
      subst he
      have HE := hide (causeO_some HO.out HST.out hw)
      have S2 := ((S1.on hb2).top).box 35 #[.slice (some ⟨g, 0, none⟩) 4 cg]
      have z1 := S1.room
      have z2 := hb2.size
      have zw := S1.base
      have TB2 := htb.tk (.alloc _ (.cells #[.slice (some ⟨g, 0, none⟩) 4 cg] 35))
      have k2 := (S2.nth 0 rfl).one
      generalize hW2 : w2.alloc (.cells #[.slice (some ⟨g, 0, none⟩) 4 cg] 35) = W2 at S2 TB2 k2
      have zW2 : w2.heap.size < W2.heap.size := by rw [← hW2]; simp
      have HW2 := hide hW2
      have BE := Blk.made W2 43 #[]
      have O0 : (W2.alloc (.cells #[] 43)).ownsRow W2.heap.size 43 2 (.slice (some ⟨W2.heap.size, 0, none⟩) 0 0) 0 [] :=
        ⟨rfl, .inr ⟨W2.heap.size, 0, #[], rfl, Nat.le_refl _, BE, Nat.le_refl _, Nat.zero_le _, rfl, rfl⟩⟩
      have S3 := S2.alloc (.cells #[] 43)
      have TB3 := TB2.tk (.alloc _ (.cells #[] 43))
      have HNEWS := hide TB3.news
      have HFL := hide (flatT_four TB3.len)
      have HO0 := hide O0
      have H4 := hide TB3.len
      have hgl := TB2.lt
      clear h1 h2 hw S1 q1 htb hW2 O0 BE
      go_upto_region 6 with (fail)
      rw [HW2.out]
      go_wp2_with (at_builtin; refine wpList_append_lies _ rfl (.tmp 21) (.tmp 23) 33 rfl W2.heap.size 43 i0 _ 2 16 Try.underlying33 I0.out I1.out I2.out I3.out rfl (by omega) (.slice (some ⟨W2.heap.size, 0, none⟩) 0 0) 0 [] rfl HO0.out ⟨g, 0, none⟩ 4 cg (flatT x.2) rfl HFL.out HNEWS.out (flatT_one x.2) (by omega) (by unfold maxLen; omega) (by omega) (by simp) _ rfl ?_; intro g2 cap2 w5 hown hgrow hat hlt2; have S5 := S3.part hgrow (fun g' e => by simp [Value.ownBlock] at e; omega) (fun x hx g' e => by { simp [Value.ownBlock] at e; have := (S2.blk x hx).2.1; omega }); have OW := hide hown; have q5 := (S5.nth 1 rfl).one; clear hown hgrow hat)
      refine bodyPost_ret (v := .tuple #[.agg #[.slice (some ⟨g2, 0, none⟩) 4 cap2], .bool true]) (by simp [results, Try.results39, go_sem, q5]) rfl ?_
      obtain ⟨cur, hg0, hblk, hcsz, htk⟩ : ∃ cur, W2.heap.size ≤ g2 ∧ Blk w5 g2 43 cur ∧ 8 ≤ cur.size ∧ cur.toList.take (4 * 2) = flatT x.2 := by
        rcases OW.out.2 with ⟨h, _⟩ | ⟨g', cap', cur, h, hg', hb', hn', hm', hs', ht'⟩
        · cases h
        · injection h with h1 h2 h3
          injection h1 with h1
          injection h1 with h1
          subst h1
          exact ⟨cur, hg', hb', by omega, by simpa using ht'⟩
      exact answer2_four HE.out H4.out (by omega) (hblk.aside (by simp; omega) _) hcsz (flat_tags htk) (S5.below.setCell (by simp) _)
end Go.Proofs.Ytjljaobmeaocjaa
