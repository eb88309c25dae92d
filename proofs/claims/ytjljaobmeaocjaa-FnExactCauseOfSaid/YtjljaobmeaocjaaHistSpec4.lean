/- Contract of the model's walk through a history. Condition: the history is well formed. -/
import Derived.Test.YtjljaobmeaocjaaHistSpec3
namespace Go.Proofs.Ytjljaobmeaocjaa
open Go.RowKit Go.Joins
attribute [local go_sem ↓] Go.wp_at_zero Go.wp_at_succ

set_option maxRecDepth 100000 in
set_option maxHeartbeats 16000000 in
theorem l6Walk_any (a : Option Addr) (c : Nat) (ds : List D) (w : World) (hf : formB ds = true) (hc : ds.length ≤ c) (hd : Dg w w.heap.size a ds) :
    Calls Try.prog 68 #[.slice a ds.length c] w (Walked w ds) := by
  obtain ⟨i0, hi0, hz0, hz1, hz2⟩ := info_parts pastInfo
  have I0 := hide hi0
  have I1 := hide hz0
  have I2 := hide hz1
  have I3 := hide hz2
  clear hi0 hz0 hz1 hz2
  have HF := hide hf
  have hn : ds.length ≤ 80 := by
    apply Classical.byContradiction
    intro h
    rw [formB_len h] at hf
    cases hf
  clear hf
  generalize hnn : ds.length = n at *
  have HN := hide hnn
  clear hnn
  have O0 : Rows0 w (.slice (some ⟨w.heap.size, 0, none⟩) 0 0) 0 (w.alloc (.cells #[] 35)) := ⟨[], ⟨rfl, .inr ⟨w.heap.size, 0, #[], rfl, Nat.le_refl _, Blk.made w _ _, Nat.le_refl _, Nat.zero_le _, rfl, rfl⟩⟩, fun i hi => absurd hi (by omega), below_alloc1 w _⟩
  have HO0 := hide O0
  clear O0
  go_enter Try.func68, Try.ntmps68
  go_wp2
  go_loopw [4, 5] (fun v i wr => ∃ k : Nat, k ≤ 4 ∧ i = .int .i64 (k : Int) ∧ Hid (Rows0 w v k wr)) (fun _ i _ => 4 - (intOf i).toNat)
  case atStart => exact ⟨0, Nat.zero_le _, rfl, HO0.out⟩
  case round =>
    obtain ⟨k, hk, rfl, hO⟩ := hrel
    clear HO0
    by_cases hlt : k < 4
    · have i2 : (k : Int) < 4 := by omega
      obtain ⟨cs, ho, hp, hl⟩ := hO.out
      have HO := hide ho
      have HP := hide hp
      have hsz := hl.size
      have hvb : Hid (∀ g, u4.ownBlock = some g → w.heap.size ≤ g) := fun g hg => by
        rcases HO.out.2 with ⟨rfl, _⟩ | ⟨g', cap, cr, rfl, hg', _⟩
        · simp [Value.ownBlock] at hg
        · simp [Value.ownBlock] at hg; omega
      have hvt : Hid (∀ r, u4.ownBlock = some r → ∃ cs, Blk wr r 35 cs) := fun r hr => by
        rcases HO.out.2 with ⟨rfl, _⟩ | ⟨g', cap, cr, rfl, hg', hb', _⟩
        · simp [Value.ownBlock] at hr
        · simp [Value.ownBlock] at hr; subst hr; exact ⟨cr, hb'⟩
      clear ho hp hO
      go_wp2_with fail
      have hvo : Hid (∀ r, u4.ownBlock = some r → r < wr.heap.size) := fun r hr => (hvt.out r hr).elim fun _ h => h.inside
      refine (l1None_new wr).mono ?_
      rintro e w1 ⟨g, cp, rfl, hg, htb, hb1⟩
      have O1 := hide (World.ownsRow.kept HO.out (grown_none (row := none) hb1) (Classical.em _))
      have z1 := hb1.size
      go_wp2_with (at_builtin; refine wpList_append_lies _ rfl (.tmp 19) (.tmp 21) 64 rfl w.heap.size 35 i0 _ 1 24 Try.underlying64 I0.out I1.out I2.out I3.out rfl (by omega) u4 k _ rfl (O1.out.alloc _) ⟨w1.heap.size, 0, none⟩ 1 1 [.slice (some ⟨g, 0, none⟩) 4 cp] rfl rfl (World.news_of_block (cs := #[.slice (some ⟨g, 0, none⟩) 4 cp]) (by simpa using heap_alloc_new w1 (.cells #[.slice (some ⟨g, 0, none⟩) 4 cp] 35))) (by simp [Value.oneCell']) (by omega) (by unfold maxLen; omega) (by omega) (by simp; omega) _ rfl ?_; intro g2 cap2 w2 hown hgrow hat hlt2; have OW := hide hown; have GW := hide hgrow; clear hown hgrow)
      have hT : Tk wr w2 := (Tk.below hb1).trans ((Tk.alloc _ _).trans (.grown GW.out fun r hr => by
        obtain ⟨cs, hcs⟩ := hvt.out r hr
        exact ⟨_, _, (hcs.on hb1).more _, past_ne_tag⟩))
      refine ⟨⟨k + 1, by omega, by go_num, _, OW.out, fun i hi => ?_, ((hl.trans (hb1.mono hsz)).alloc (by omega) _).grown GW.out (by simp; omega) hvb.out⟩, by simp [intOf]; omega⟩
      have hcl : cs.length = k := by have := HO.out.1; omega
      by_cases e : i < k
      · rw [List.getElem?_append_left (by omega)]
        exact (HP.out i e).tk hT
      · have : i = k := by omega
        subst this
        rw [List.getElem?_append_right (by omega)]
        refine ⟨g, cp, by simp [hcl], htb.tk ((Tk.alloc _ _).trans (.grown GW.out fun r hr => by
          obtain ⟨cs, hcs⟩ := hvt.out r hr
          exact ⟨_, _, (hcs.on hb1).more _, past_ne_tag⟩)), by omega⟩
    · have hk4 : k = 4 := by omega
      have hk5 : (k : Int) = 4 := by omega
      rw [hk4] at hO
      rw [hk5]
      clear hlt hk hk5 hk4
      obtain ⟨G, cap4, cur4, rfl, hG, hB4, h44, hp4, hl4⟩ := rows0_end hO.out
      have WS0 := hide (ws_start hG hB4 h44 hp4 hl4)
      clear hO hp4 hB4 h44 hl4
      go_wp2
      generalize wr.heap.size = base at WS0 ⊢
      go_loopw [6, 7] (fun v i wr => ∃ (k : Nat) (st : St) (gs cap : Nat), k ≤ n ∧ i = .int .i64 (k : Int) ∧ v = .slice (some ⟨gs, 0, none⟩) k cap ∧ Hid (st.2.length = k) ∧ Hid (Runs (ds.take k) st) ∧ WS w G base gs cap st wr) (fun _ i _ => n - (intOf i).toNat)
      case atStart => exact ⟨0, st0, base, 0, Nat.zero_le _, rfl, rfl, rfl, runs_nil, WS0.out⟩
      case round =>
      obtain ⟨k, st, gs, cap, hk, rfl, rfl, HK, HRU, hW⟩ := hrel
      clear WS0
      by_cases hlt : k < n
      · rcases hd with h0 | ⟨b, off, rfl, hb, hx⟩
        · have := HN.out; subst h0; simp at this; omega
        · have hd : Dg w w.heap.size (some ⟨b, off, none⟩) ds := .inr ⟨b, off, rfl, hb, hx⟩
          have hkl : k < ds.length := by have := HN.out; omega
          have F0 := (hx k _ (List.getElem?_eq_getElem hkl)).on hb hW.below
          have HX := hide (List.getElem?_eq_getElem hkl)
          generalize ds[k] = x at F0 HX
          obtain ⟨x0, x1, x2, x3, x4⟩ := x
          obtain ⟨f0, f1, f2, f3, f4, f5, f6, f7⟩ := doneB_i (s := x0) (k := x1) (y := x2) (t := x3) (u := x4) (by
            have := HF.out
            unfold formB at this
            rw [Bool.and_eq_true, List.all_eq_true] at this
            exact this.2 _ (List.mem_of_getElem? HX.out))
          obtain ⟨sn, rfl⟩ := Int.eq_ofNat_of_zero_le f0
          obtain ⟨yn, rfl⟩ := Int.eq_ofNat_of_zero_le f4
          have hsn : sn < 4 := by omega
          have hyn : yn < 4 := by omega
          have HOK := hide HRU.out.ok
          obtain ⟨mg, mc, hcell, htb, hmlo⟩ := hW.see (view_at HOK.out hsn)
          have i1 : (0 : Int) ≤ (k : Int) := by omega
          have i2 : (k : Int) < (n : Int) := by omega
          have i3 : (sn : Int) < 4 := by omega
          have i4 : (0 : Int) ≤ (sn : Int) := by omega
          have hzz := hW.below.size
          have hbw : b < wr.heap.size := by omega
          have hGw : G < wr.heap.size := by have := hW.hi; have := hW.room; omega
          have hR : RS w G base gs cap st wr.heap.size ((sn : Int), x1, (yn : Int), x3, x4) mg mc (viewOf st (sn : Int)) ((wr.alloc (.cells (doneC (sn : Int) x1 (yn : Int) x3 x4) 53)).alloc (.cells #[.slice (some ⟨mg, 0, none⟩) 4 mc] 35)) :=
            ⟨hW.on (below_alloc2 _ _ _), (Blk.made _ _ _).more _, by simpa using Blk.made (wr.alloc (.cells (doneC (sn : Int) x1 (yn : Int) x3 x4) 53)) 35 #[.slice (some ⟨mg, 0, none⟩) 4 mc], htb.on (below_alloc2 _ _ _), hW.room, hW.gsHi, hmlo⟩
          have HR := hide hR
          clear hx htb hR
          go_upto_region 12 with (fail)
          have hR := HR.out
          clear HR
          generalize (wr.alloc (.cells (doneC (sn : Int) x1 (yn : Int) x3 x4) 53)).alloc (.cells #[.slice (some ⟨mg, 0, none⟩) 4 mc] 35) = W at hR ⊢
          clear F0 hcell hW hGw hbw hzz hmlo
          generalize wr.heap.size = D0 at hR ⊢
          clear wr
          have kr := hR.row.five
          have km := hR.mine.one
          have i5 : (k : Int) ≤ (c : Int) := by omega
          have i6 : (yn : Int) < 4 := by omega
          have i7 : (0 : Int) ≤ (yn : Int) := by omega
          by_cases h1 : x1 = 1
          · subst h1
            go_upto_region 13 with (fail)
            go_cut [11] (fun s wx => s = .bool (wrote st x3 x4).isSome ∧ RS w G base gs cap st D0 ((sn : Int), 1, (yn : Int), x3, x4) mg mc (viewOf st (sn : Int)) wx)
            case first =>
              refine wp_region_noPanic ?_
              refine wp_region_held_drew (S := (fun w' => (w'.cell? ⟨D0, 3, none⟩ = some (.int .i64 x3) ∧ w'.cell? ⟨D0, 4, none⟩ = some (.int .i64 x4)) ∧ RS w G base gs cap st D0 ((sn : Int), 1, (yn : Int), x3, x4) mg mc (viewOf st (sn : Int)) w')) (by kernel_rfl) (by exact ⟨⟨(hR.drew).row.at 3, (hR.drew).row.at 4⟩, hR.drew⟩) (fun hHeld => ?_)
              refine take_run 0 (some 43) (v := ?_) rfl rfl (by kernel_rfl) (by kernel_rfl) (by kernel_rfl) (fun _ _ _ h => h) (by rfl) ?_ hHeld ?_
              rotate_left
              · ((intro w hSw); (try dsimp only at hSw); go_simp <;> with_reducible rfl)
              simp only [Act.put, List.setIfInBounds_toArray, List.set_cons_zero, List.set_cons_succ]
              refine take_run 1 (some 44) (v := ?_) rfl rfl (by kernel_rfl) (by kernel_rfl) (by kernel_rfl) (fun _ _ _ h => h) (by rfl) ?_ hHeld ?_
              rotate_left
              · ((intro w hSw); (try dsimp only at hSw); go_simp <;> with_reducible rfl)
              simp only [Act.put, List.setIfInBounds_toArray, List.set_cons_zero, List.set_cons_succ]
              refine take_run 2 (some 45) (v := ?_) rfl rfl (by kernel_rfl) (by kernel_rfl) (by kernel_rfl) (fun _ _ _ h => h) (by rfl) ?_ hHeld ?_
              rotate_left
              · ((intro w hSw); (try dsimp only at hSw); go_simp <;> with_reducible rfl)
              simp only [Act.put, List.setIfInBounds_toArray, List.set_cons_zero, List.set_cons_succ]
              refine take_run 3 (some 46) (v := ?_) rfl rfl (by kernel_rfl) (by kernel_rfl) (by kernel_rfl) (fun _ _ _ h => h) (by rfl) ?_ hHeld ?_
              rotate_left
              · ((intro w hSw); (try dsimp only at hSw); go_simp <;> with_reducible rfl)
              simp only [Act.put, List.setIfInBounds_toArray, List.set_cons_zero, List.set_cons_succ]
              refine take_run 4 (some 47) (v := ?_) rfl rfl (by kernel_rfl) (by kernel_rfl) (by kernel_rfl) (fun _ _ _ h => h) (by rfl) ?_ hHeld ?_
              rotate_left
              · ((intro w hSw); (try dsimp only at hSw); go_simp <;> with_reducible rfl)
              simp only [Act.put, List.setIfInBounds_toArray, List.set_cons_zero, List.set_cons_succ]
              refine take_run 5 (some 48) (v := ?_) rfl rfl (by kernel_rfl) (by kernel_rfl) (by kernel_rfl) (fun _ _ _ h => h) (by rfl) ?_ hHeld ?_
              rotate_left
              · ((intro w hSw); (try dsimp only at hSw); go_simp <;> with_reducible rfl)
              simp only [Act.put, List.setIfInBounds_toArray, List.set_cons_zero, List.set_cons_succ]
              refine wpAnyH_ready (rs := [6, 10]) (by kernel_rfl) (by simp) ?_
              refine AllReadyH.cons rfl (fun K hK => ?_) (AllReadyH.cons rfl (fun K hK => ?_) AllReadyH.nil)
              · skip
                go_simp
                (have hr := hHeld.2.high; (try simp at hr); have C6 := l6Wrote_any (some ⟨b, off, none⟩) c gs cap st.2 x3 x4 _ (by have := HK.out; omega) (by rw [HRU.out.recs]; exact ((hd.on hHeld.2.ws.below).up hHeld.2.ws.below.size).take _) hHeld.2.ws.gsHi (fun j x hx => (hHeld.2.ws.saw hx).bare); rw [HK.out] at C6; refine C6.mono ?_; rintro e w3 hw3; obtain ⟨A3, m3, c3, rfl, hb, hA3⟩ := wrote_any hw3; have hz := hb.size; (try simp at hz); (first | (with_reducible have hx := Blk.on (Blk.drew (Blk.made _ _ #[.slice none 0 0])) hb) | (with_reducible have hx := Blk.on (Blk.made _ _ #[.slice none 0 0]) hb) | (with_reducible have hx := Blk.on (cs := #[.slice none 0 0]) (by assumption) hb) | skip); (try have kx := hx.one))
                try go_wp2_with fail
                refine hK.out _ _ (by exact ⟨⟨(hHeld.2.on hb).row.at 3, (hHeld.2.on hb).row.at 4⟩, hHeld.2.on hb⟩) (fun hHeld => ?_)
                clear hK K
                refine take_run 7 (some 42) (v := ?_) rfl rfl (by kernel_rfl) (by kernel_rfl) (by kernel_rfl) (fun _ _ _ h => h) (by rfl) ?_ hHeld ?_
                rotate_left
                · ((intro w hSw); (try dsimp only at hSw); go_simp <;> with_reducible rfl)
                simp only [Act.put, List.setIfInBounds_toArray, List.set_cons_zero, List.set_cons_succ]
                refine take_run 8 (some 50) (v := ?_) rfl rfl (by kernel_rfl) (by kernel_rfl) (by kernel_rfl) (fun _ _ _ h => h) (by rfl) ?_ hHeld ?_
                rotate_left
                · ((intro w hSw); (try dsimp only at hSw); go_simp <;> with_reducible rfl)
                simp only [Act.put, List.setIfInBounds_toArray, List.set_cons_zero, List.set_cons_succ]
                refine take_run 9 (some 51) (v := ?_) rfl rfl (by kernel_rfl) (by kernel_rfl) (by kernel_rfl) (fun _ _ _ h => h) (by rfl) ?_ hHeld ?_
                rotate_left
                · ((intro w hSw); (try dsimp only at hSw); go_simp <;> with_reducible rfl)
                simp only [Act.put, List.setIfInBounds_toArray, List.set_cons_zero, List.set_cons_succ]
                refine take_one 10 (by kernel_rfl) rfl (fun K hK => ?_)
                go_simp
                (have hr := hHeld.2.high; (try simp at hr))
                try go_wp2_with fail
                refine hK.out _ _ (by exact ⟨⟨(hHeld.2.alloc _).row.at 3, (hHeld.2.alloc _).row.at 4⟩, hHeld.2.alloc _⟩) (fun hHeld => ?_)
                clear hK K
                refine take_one 11 (by kernel_rfl) rfl (fun K hK => ?_)
                go_simp
                refine hK.out _ _ (by first | exact ⟨⟨(hHeld.2.swap (by first | omega | (simp <;> omega))).row.at 3, (hHeld.2.swap (by first | omega | (simp <;> omega))).row.at 4⟩, hHeld.2.swap (by first | omega | (simp <;> omega))⟩ | exact ⟨⟨(hHeld.2.aside hx past_ne_tag (by first | omega | (simp <;> omega)) _).row.at 3, (hHeld.2.aside hx past_ne_tag (by first | omega | (simp <;> omega)) _).row.at 4⟩, hHeld.2.aside hx past_ne_tag (by first | omega | (simp <;> omega)) _⟩) (fun hHeld => ?_)
                clear hK K
                refine take_run 12 (some 11) (v := ?_) rfl rfl (by kernel_rfl) (by kernel_rfl) (by kernel_rfl) (fun _ _ _ h => h) (by rfl) ?_ hHeld ?_
                rotate_left
                · ((intro w hSw); (try dsimp only at hSw); go_simp <;> with_reducible rfl)
                simp only [Act.put, List.setIfInBounds_toArray, List.set_cons_zero, List.set_cons_succ]
                refine wpAnyH_done (by kernel_rfl) ?_ _
                refine NoPanic.normal ?_
                go_wp2_with fail
                go_meet
                exact ⟨rfl, hHeld.2⟩
              · skip
                go_simp
                (have hr := hHeld.2.high; (try simp at hr))
                try go_wp2_with fail
                refine hK.out _ _ (by exact ⟨⟨(hHeld.2.alloc _).row.at 3, (hHeld.2.alloc _).row.at 4⟩, hHeld.2.alloc _⟩) (fun hHeld => ?_)
                clear hK K
                refine take_one 6 (by kernel_rfl) rfl (fun K hK => ?_)
                go_simp
                (have hr := hHeld.2.high; (try simp at hr); have C6 := l6Wrote_any (some ⟨b, off, none⟩) c gs cap st.2 x3 x4 _ (by have := HK.out; omega) (by rw [HRU.out.recs]; exact ((hd.on hHeld.2.ws.below).up hHeld.2.ws.below.size).take _) hHeld.2.ws.gsHi (fun j x hx => (hHeld.2.ws.saw hx).bare); rw [HK.out] at C6; refine C6.mono ?_; rintro e w3 hw3; obtain ⟨A3, m3, c3, rfl, hb, hA3⟩ := wrote_any hw3; have hz := hb.size; (try simp at hz); (first | (with_reducible have hx := Blk.on (Blk.drew (Blk.made _ _ #[.slice none 0 0])) hb) | (with_reducible have hx := Blk.on (Blk.made _ _ #[.slice none 0 0]) hb) | (with_reducible have hx := Blk.on (cs := #[.slice none 0 0]) (by assumption) hb) | skip); (try have kx := hx.one))
                try go_wp2_with fail
                refine hK.out _ _ (by exact ⟨⟨(hHeld.2.on hb).row.at 3, (hHeld.2.on hb).row.at 4⟩, hHeld.2.on hb⟩) (fun hHeld => ?_)
                clear hK K
                refine take_run 7 (some 42) (v := ?_) rfl rfl (by kernel_rfl) (by kernel_rfl) (by kernel_rfl) (fun _ _ _ h => h) (by rfl) ?_ hHeld ?_
                rotate_left
                · ((intro w hSw); (try dsimp only at hSw); go_simp <;> with_reducible rfl)
                simp only [Act.put, List.setIfInBounds_toArray, List.set_cons_zero, List.set_cons_succ]
                refine take_run 8 (some 50) (v := ?_) rfl rfl (by kernel_rfl) (by kernel_rfl) (by kernel_rfl) (fun _ _ _ h => h) (by rfl) ?_ hHeld ?_
                rotate_left
                · ((intro w hSw); (try dsimp only at hSw); go_simp <;> with_reducible rfl)
                simp only [Act.put, List.setIfInBounds_toArray, List.set_cons_zero, List.set_cons_succ]
                refine take_run 9 (some 51) (v := ?_) rfl rfl (by kernel_rfl) (by kernel_rfl) (by kernel_rfl) (fun _ _ _ h => h) (by rfl) ?_ hHeld ?_
                rotate_left
                · ((intro w hSw); (try dsimp only at hSw); go_simp <;> with_reducible rfl)
                simp only [Act.put, List.setIfInBounds_toArray, List.set_cons_zero, List.set_cons_succ]
                refine take_one 11 (by kernel_rfl) rfl (fun K hK => ?_)
                go_simp
                refine hK.out _ _ (by first | exact ⟨⟨(hHeld.2.swap (by first | omega | (simp <;> omega))).row.at 3, (hHeld.2.swap (by first | omega | (simp <;> omega))).row.at 4⟩, hHeld.2.swap (by first | omega | (simp <;> omega))⟩ | exact ⟨⟨(hHeld.2.aside hx past_ne_tag (by first | omega | (simp <;> omega)) _).row.at 3, (hHeld.2.aside hx past_ne_tag (by first | omega | (simp <;> omega)) _).row.at 4⟩, hHeld.2.aside hx past_ne_tag (by first | omega | (simp <;> omega)) _⟩) (fun hHeld => ?_)
                clear hK K
                refine take_run 12 (some 11) (v := ?_) rfl rfl (by kernel_rfl) (by kernel_rfl) (by kernel_rfl) (fun _ _ _ h => h) (by rfl) ?_ hHeld ?_
                rotate_left
                · ((intro w hSw); (try dsimp only at hSw); go_simp <;> with_reducible rfl)
                simp only [Act.put, List.setIfInBounds_toArray, List.set_cons_zero, List.set_cons_succ]
                refine wpAnyH_done (by kernel_rfl) ?_ _
                refine NoPanic.normal ?_
                go_wp2_with fail
                go_meet
                exact ⟨rfl, hHeld.2⟩
            case rest =>
            obtain ⟨rfl, hR1⟩ := hcut
            clear hR kr km
            have kr := hR1.row.five
            have km := hR1.mine.one
            cases hw : wrote st x3 x4 with
            | some x =>
              have HS := hide (far_stop HRU.out HX.out (stp_twice rfl hw))
              simp only [Option.isSome_some]
              clear hw
              go_wp2
              refine bodyPost_ret (v := .tuple #[.slice (some ⟨gs, 0, none⟩) k cap, .int .i64 (k : Int)]) (by simp [results, Try.results68, go_sem]) rfl ?_
              exact hR1.ws.walked HK.out HRU.out HS.out
            | none =>
              have HW := hide hw
              simp only [Option.isSome_none]
              clear hw
              go_wp2_with fail
              refine (l6Later_any (some ⟨mg, 0, none⟩) mc (viewOf st (sn : Int)) x3 x4 _ (viewOf_len HOK.out _) hR1.tb.tg).mono ?_
              rintro e w3 ⟨rfl, hb3⟩
              have hR2 := hR1.on hb3
              clear hR1 kr km hb3
              have km := hR2.mine.one
              cases hl : lateB (viewOf st (sn : Int)) x3 with
              | false =>
                have HS := hide (far_stop HRU.out HX.out (stp_early rfl HW.out hl))
                clear hl
                go_wp2
                refine bodyPost_ret (v := .tuple #[.slice (some ⟨gs, 0, none⟩) k cap, .int .i64 (k : Int)]) (by simp [results, Try.results68, go_sem]) rfl ?_
                exact hR2.ws.walked HK.out HRU.out HS.out
              | true =>
                have HS := hide (runs_step HRU.out HX.out (stp_write rfl HW.out hl))
                clear hl
                obtain ⟨xs, ho, hxs⟩ := hR2.ws.owns
                rw [HK.out] at ho
                have HO := hide ho
                have hzr := hR2.ws.room
                clear ho
                go_wp2_with (at_builtin; refine wpList_append_lies _ rfl (.tmp 62) (.tmp 64) 64 rfl base 35 i0 _ 1 24 Try.underlying64 I0.out I1.out I2.out I3.out rfl (by omega) (.slice (some ⟨gs, 0, none⟩) k cap) k _ rfl (HO.out.alloc _) ⟨w3.heap.size, 0, none⟩ 1 1 [.slice (some ⟨mg, 0, none⟩) 4 mc] rfl rfl (World.news_of_block (cs := #[.slice (some ⟨mg, 0, none⟩) 4 mc]) (by simpa using heap_alloc_new w3 (.cells #[.slice (some ⟨mg, 0, none⟩) 4 mc] 35))) (by simp [Value.oneCell']) (by omega) (by unfold maxLen; omega) (by omega) (by simp; omega) _ rfl ?_; intro g2 cap2 w2 hown hgrow hat hlt2; have OW := hide hown; have GW := hide hgrow; clear hown hgrow)
                have hP := hR2.ws.on (below_alloc1 w3 (.cells #[.slice (some ⟨mg, 0, none⟩) 4 mc] 35))
                refine ⟨⟨k + 1, _, g2, cap2, by omega, by go_num, rfl, ?_, HS.out, hP.push (d := ((sn : Int), 1, (yn : Int), x3, x4)) (fun i x hx => (hxs i x hx).tk (.alloc _ _)) (by rw [HO.out.1, HK.out]) (by rw [HK.out]; exact OW.out) GW.out (hR2.tb.tk (.alloc _ _)) hR2.mlo⟩, by simp [intOf]; omega⟩
                show Hid ((st.2 ++ _).length = k + 1)
                unfold Hid
                simp [HK.out]
          · have d1 : decide (x1 = 1) = false := decide_eq_false h1
            have b1 : (x1 == 1) = false := by simpa using h1
            have B1 := hide b1
            clear b1
            obtain ⟨y1, y2, hyy⟩ : ∃ y1 y2, tagAt (viewOf st (sn : Int)) (yn : Int) = (y1, y2) := ⟨_, _, rfl⟩
            obtain ⟨t0, t1⟩ := hR.tb.cells (tag_at (viewOf_len HOK.out _) hyn)
            rw [hyy] at t0 t1
            have HY := hide hyy
            have T0 := hide t0
            have T1 := hide t1
            clear hyy t0 t1
            go_wp2_with fail
            refine wp_region_noPanic ?_
            refine wp_region_held_drew (S := (fun w' => (w'.cell? ⟨mg, yn * 2, none⟩ = some (.int .i64 y1) ∧ w'.cell? ⟨mg, yn * 2 + 1, none⟩ = some (.int .i64 y2)) ∧ (w'.cell? ⟨D0 + 1, 0, none⟩ = some (.slice (some ⟨mg, 0, none⟩) 4 mc) ∧ w'.cell? ⟨D0, 2, none⟩ = some (.int .i64 (yn : Int)) ∧ w'.cell? ⟨D0, 3, none⟩ = some (.int .i64 x3) ∧ w'.cell? ⟨D0, 4, none⟩ = some (.int .i64 x4)) ∧ RS w G base gs cap st D0 ((sn : Int), x1, (yn : Int), x3, x4) mg mc (viewOf st (sn : Int)) w')) (by kernel_rfl) (by exact ⟨⟨T0.out, T1.out⟩, ⟨hR.drew.mine.at 0, hR.drew.row.at 2, hR.drew.row.at 3, hR.drew.row.at 4⟩, hR.drew⟩) (fun hHeld => ?_)
            refine take_run 0 (some 66) (v := ?_) rfl rfl (by kernel_rfl) (by kernel_rfl) (by kernel_rfl) (fun _ _ _ h => h) (by rfl) ?_ hHeld ?_
            rotate_left
            · ((intro w hSw); (try dsimp only at hSw); go_simp <;> with_reducible rfl)
            simp only [Act.put, List.setIfInBounds_toArray, List.set_cons_zero, List.set_cons_succ]
            refine take_run 1 (some 67) (v := ?_) rfl rfl (by kernel_rfl) (by kernel_rfl) (by kernel_rfl) (fun _ _ _ h => h) (by rfl) ?_ hHeld ?_
            rotate_left
            · ((intro w hSw); (try dsimp only at hSw); go_simp <;> with_reducible rfl)
            simp only [Act.put, List.setIfInBounds_toArray, List.set_cons_zero, List.set_cons_succ]
            refine take_run 2 (some 68) (v := ?_) rfl rfl (by kernel_rfl) (by kernel_rfl) (by kernel_rfl) (fun _ _ _ h => h) (by rfl) ?_ hHeld ?_
            rotate_left
            · ((intro w hSw); (try dsimp only at hSw); go_simp <;> with_reducible rfl)
            simp only [Act.put, List.setIfInBounds_toArray, List.set_cons_zero, List.set_cons_succ]
            refine take_run 3 (some 69) (v := ?_) rfl rfl (by kernel_rfl) (by kernel_rfl) (by kernel_rfl) (fun _ _ _ h => h) (by rfl) ?_ hHeld ?_
            rotate_left
            · ((intro w hSw); (try dsimp only at hSw); go_simp <;> with_reducible rfl)
            simp only [Act.put, List.setIfInBounds_toArray, List.set_cons_zero, List.set_cons_succ]
            refine take_run 4 (some 70) (v := ?_) rfl rfl (by kernel_rfl) (by kernel_rfl) (by kernel_rfl) (fun _ _ _ h => h) (by rfl) ?_ hHeld ?_
            rotate_left
            · ((intro w hSw); (try dsimp only at hSw); go_simp <;> with_reducible rfl)
            simp only [Act.put, List.setIfInBounds_toArray, List.set_cons_zero, List.set_cons_succ]
            refine take_run 5 (some 71) (v := ?_) rfl rfl (by kernel_rfl) (by kernel_rfl) (by kernel_rfl) (fun _ _ _ h => h) (by rfl) ?_ hHeld ?_
            rotate_left
            · ((intro w hSw); (try dsimp only at hSw); go_simp <;> with_reducible rfl)
            simp only [Act.put, List.setIfInBounds_toArray, List.set_cons_zero, List.set_cons_succ]
            refine take_run 6 (some 72) (v := ?_) rfl rfl (by kernel_rfl) (by kernel_rfl) (by kernel_rfl) (fun _ _ _ h => h) (by rfl) ?_ hHeld ?_
            rotate_left
            · ((intro w hSw); (try dsimp only at hSw); go_simp <;> with_reducible rfl)
            simp only [Act.put, List.setIfInBounds_toArray, List.set_cons_zero, List.set_cons_succ]
            refine take_run 7 (some 73) (v := ?_) rfl rfl (by kernel_rfl) (by kernel_rfl) (by kernel_rfl) (fun _ _ _ h => h) (by rfl) ?_ hHeld ?_
            rotate_left
            · ((intro w hSw); (try dsimp only at hSw); go_simp <;> with_reducible rfl)
            simp only [Act.put, List.setIfInBounds_toArray, List.set_cons_zero, List.set_cons_succ]
            refine take_one 8 (by kernel_rfl) rfl (fun K hK => ?_)
            go_simp
            (refine (l1Less_any x3 x4 y1 y2 _).mono ?_; rintro e w3 ⟨rfl, hb⟩; have tcs := (hHeld.2.2.on hb).tb.cells (tag_at (viewOf_len HOK.out _) hyn); rw [HY.out] at tcs)
            try go_wp2_with fail
            refine hK.out _ _ (by exact ⟨tcs, ⟨(hHeld.2.2.on hb).mine.at 0, (hHeld.2.2.on hb).row.at 2, (hHeld.2.2.on hb).row.at 3, (hHeld.2.2.on hb).row.at 4⟩, hHeld.2.2.on hb⟩) (fun hHeld => ?_)
            clear hK K
            refine wpAnyH_done (by kernel_rfl) ?_ _
            refine NoPanic.normal ?_
            have hR1 := hHeld.2.2
            clear hHeld hR kr km T0 T1 tcs hb
            have kr := hR1.row.five
            have km := hR1.mine.one
            cases hl : lessB x3 x4 y1 y2 with
            | true =>
              have HS := hide (far_stop HRU.out HX.out (stp_less B1.out (by rw [HY.out]; exact hl)))
              clear hl
              go_wp2
              refine bodyPost_ret (v := .tuple #[.slice (some ⟨gs, 0, none⟩) k cap, .int .i64 (k : Int)]) (by simp [results, Try.results68, go_sem]) rfl ?_
              exact hR1.ws.walked HK.out HRU.out HS.out
            | false =>
              have HL : Hid (lessB x3 x4 (tagAt (viewOf st (sn : Int)) (yn : Int)).1 (tagAt (viewOf st (sn : Int)) (yn : Int)).2 = false) := by unfold Hid; rw [HY.out]; exact hl
              clear hl
              by_cases ht0 : 0 < x3
              · have HZ : Hid (eqB x3 x4 0 0 = false) := by unfold Hid eqB; simp; omega
                go_upto_region 20 with (fail)
                go_cut [12, 13] (fun s t wx => ∃ (p : Nat) (A : Option Addr) (m cc : Nat), s = .pointer (some ⟨p, 0, none⟩) ∧ t = .bool (wrote st x3 x4).isSome ∧ Blk wx p 35 #[.slice A m cc] ∧ D0 + 2 ≤ p ∧ RS w G base gs cap st D0 ((sn : Int), x1, (yn : Int), x3, x4) mg mc (viewOf st (sn : Int)) wx ∧ ∀ x, wrote st x3 x4 = some x → ∃ g, A = some ⟨g, 0, none⟩ ∧ m = 4 ∧ TB wx g x.2)
                case first =>
                  refine wp_region_noPanic ?_
                  refine wp_region_held_drew (S := (fun w' => (w'.cell? ⟨D0, 3, none⟩ = some (.int .i64 x3) ∧ w'.cell? ⟨D0, 4, none⟩ = some (.int .i64 x4)) ∧ RS w G base gs cap st D0 ((sn : Int), x1, (yn : Int), x3, x4) mg mc (viewOf st (sn : Int)) w')) (by kernel_rfl) (by exact ⟨⟨(hR1.drew).row.at 3, (hR1.drew).row.at 4⟩, hR1.drew⟩) (fun hHeld => ?_)
                  refine take_run 0 (some 82) (v := ?_) rfl rfl (by kernel_rfl) (by kernel_rfl) (by kernel_rfl) (fun _ _ _ h => h) (by rfl) ?_ hHeld ?_
                  rotate_left
                  · ((intro w hSw); (try dsimp only at hSw); go_simp <;> with_reducible rfl)
                  simp only [Act.put, List.setIfInBounds_toArray, List.set_cons_zero, List.set_cons_succ]
                  refine take_run 1 (some 83) (v := ?_) rfl rfl (by kernel_rfl) (by kernel_rfl) (by kernel_rfl) (fun _ _ _ h => h) (by rfl) ?_ hHeld ?_
                  rotate_left
                  · ((intro w hSw); (try dsimp only at hSw); go_simp <;> with_reducible rfl)
                  simp only [Act.put, List.setIfInBounds_toArray, List.set_cons_zero, List.set_cons_succ]
                  refine take_run 2 (some 84) (v := ?_) rfl rfl (by kernel_rfl) (by kernel_rfl) (by kernel_rfl) (fun _ _ _ h => h) (by rfl) ?_ hHeld ?_
                  rotate_left
                  · ((intro w hSw); (try dsimp only at hSw); go_simp <;> with_reducible rfl)
                  simp only [Act.put, List.setIfInBounds_toArray, List.set_cons_zero, List.set_cons_succ]
                  refine take_run 3 (some 85) (v := ?_) rfl rfl (by kernel_rfl) (by kernel_rfl) (by kernel_rfl) (fun _ _ _ h => h) (by rfl) ?_ hHeld ?_
                  rotate_left
                  · ((intro w hSw); (try dsimp only at hSw); go_simp <;> with_reducible rfl)
                  simp only [Act.put, List.setIfInBounds_toArray, List.set_cons_zero, List.set_cons_succ]
                  refine take_run 4 (some 86) (v := ?_) rfl rfl (by kernel_rfl) (by kernel_rfl) (by kernel_rfl) (fun _ _ _ h => h) (by rfl) ?_ hHeld ?_
                  rotate_left
                  · ((intro w hSw); (try dsimp only at hSw); go_simp <;> with_reducible rfl)
                  simp only [Act.put, List.setIfInBounds_toArray, List.set_cons_zero, List.set_cons_succ]
                  refine take_run 5 (some 87) (v := ?_) rfl rfl (by kernel_rfl) (by kernel_rfl) (by kernel_rfl) (fun _ _ _ h => h) (by rfl) ?_ hHeld ?_
                  rotate_left
                  · ((intro w hSw); (try dsimp only at hSw); go_simp <;> with_reducible rfl)
                  simp only [Act.put, List.setIfInBounds_toArray, List.set_cons_zero, List.set_cons_succ]
                  refine wpAnyH_ready (rs := [6, 10]) (by kernel_rfl) (by simp) ?_
                  refine AllReadyH.cons rfl (fun K hK => ?_) (AllReadyH.cons rfl (fun K hK => ?_) AllReadyH.nil)
                  · skip
                    go_simp
                    (have hr := hHeld.2.high; (try simp at hr); have C6 := l6Wrote_any (some ⟨b, off, none⟩) c gs cap st.2 x3 x4 _ (by have := HK.out; omega) (by rw [HRU.out.recs]; exact ((hd.on hHeld.2.ws.below).up hHeld.2.ws.below.size).take _) hHeld.2.ws.gsHi (fun j x hx => (hHeld.2.ws.saw hx).bare); rw [HK.out] at C6; refine C6.mono ?_; rintro e w3 hw3; obtain ⟨A3, m3, c3, rfl, hb, hA3⟩ := wrote_any hw3; have hz := hb.size; (try simp at hz); (first | (with_reducible have hx := Blk.on (Blk.drew (Blk.made _ _ #[.slice none 0 0])) hb) | (with_reducible have hx := Blk.on (Blk.made _ _ #[.slice none 0 0]) hb) | (with_reducible have hx := Blk.on (cs := #[.slice none 0 0]) (by assumption) hb) | skip); (try have kx := hx.one))
                    try go_wp2_with fail
                    refine hK.out _ _ (by exact ⟨⟨(hHeld.2.on hb).row.at 3, (hHeld.2.on hb).row.at 4⟩, hHeld.2.on hb⟩) (fun hHeld => ?_)
                    clear hK K
                    refine take_run 7 (some 81) (v := ?_) rfl rfl (by kernel_rfl) (by kernel_rfl) (by kernel_rfl) (fun _ _ _ h => h) (by rfl) ?_ hHeld ?_
                    rotate_left
                    · ((intro w hSw); (try dsimp only at hSw); go_simp <;> with_reducible rfl)
                    simp only [Act.put, List.setIfInBounds_toArray, List.set_cons_zero, List.set_cons_succ]
                    refine take_run 8 (some 89) (v := ?_) rfl rfl (by kernel_rfl) (by kernel_rfl) (by kernel_rfl) (fun _ _ _ h => h) (by rfl) ?_ hHeld ?_
                    rotate_left
                    · ((intro w hSw); (try dsimp only at hSw); go_simp <;> with_reducible rfl)
                    simp only [Act.put, List.setIfInBounds_toArray, List.set_cons_zero, List.set_cons_succ]
                    refine take_run 9 (some 90) (v := ?_) rfl rfl (by kernel_rfl) (by kernel_rfl) (by kernel_rfl) (fun _ _ _ h => h) (by rfl) ?_ hHeld ?_
                    rotate_left
                    · ((intro w hSw); (try dsimp only at hSw); go_simp <;> with_reducible rfl)
                    simp only [Act.put, List.setIfInBounds_toArray, List.set_cons_zero, List.set_cons_succ]
                    refine take_one 10 (by kernel_rfl) rfl (fun K hK => ?_)
                    go_simp
                    (have hr := hHeld.2.high; (try simp at hr))
                    try go_wp2_with fail
                    refine hK.out _ _ (by exact ⟨⟨(hHeld.2.alloc _).row.at 3, (hHeld.2.alloc _).row.at 4⟩, hHeld.2.alloc _⟩) (fun hHeld => ?_)
                    clear hK K
                    refine take_one 11 (by kernel_rfl) rfl (fun K hK => ?_)
                    go_simp
                    refine hK.out _ _ (by first | exact ⟨⟨(hHeld.2.swap (by first | omega | (simp <;> omega))).row.at 3, (hHeld.2.swap (by first | omega | (simp <;> omega))).row.at 4⟩, hHeld.2.swap (by first | omega | (simp <;> omega))⟩ | exact ⟨⟨(hHeld.2.aside hx past_ne_tag (by first | omega | (simp <;> omega)) _).row.at 3, (hHeld.2.aside hx past_ne_tag (by first | omega | (simp <;> omega)) _).row.at 4⟩, hHeld.2.aside hx past_ne_tag (by first | omega | (simp <;> omega)) _⟩) (fun hHeld => ?_)
                    clear hK K
                    refine take_run 12 (some 13) (v := ?_) rfl rfl (by kernel_rfl) (by kernel_rfl) (by kernel_rfl) (fun _ _ _ h => h) (by rfl) ?_ hHeld ?_
                    rotate_left
                    · ((intro w hSw); (try dsimp only at hSw); go_simp <;> with_reducible rfl)
                    simp only [Act.put, List.setIfInBounds_toArray, List.set_cons_zero, List.set_cons_succ]
                    refine wpAnyH_done (by kernel_rfl) ?_ _
                    refine NoPanic.normal ?_
                    go_wp2_with fail
                    go_meet
                    first | exact ⟨_, A3, m3, c3, rfl, rfl, Blk.made _ _ _, (by first | omega | (simp <;> omega)), hHeld.2, fun x hx' => (hA3 x hx').elim fun g h => ⟨g, h.1, h.2.1, h.2.2.tk (.alloc _ _)⟩⟩ | exact ⟨_, A3, m3, c3, rfl, rfl, hx.put 0 _, (by first | omega | (simp <;> omega)), hHeld.2, fun x hx' => (hA3 x hx').elim fun g h => ⟨g, h.1, h.2.1, h.2.2.tk (.set hx past_ne_tag _)⟩⟩
                  · skip
                    go_simp
                    (have hr := hHeld.2.high; (try simp at hr))
                    try go_wp2_with fail
                    refine hK.out _ _ (by exact ⟨⟨(hHeld.2.alloc _).row.at 3, (hHeld.2.alloc _).row.at 4⟩, hHeld.2.alloc _⟩) (fun hHeld => ?_)
                    clear hK K
                    refine take_one 6 (by kernel_rfl) rfl (fun K hK => ?_)
                    go_simp
                    (have hr := hHeld.2.high; (try simp at hr); have C6 := l6Wrote_any (some ⟨b, off, none⟩) c gs cap st.2 x3 x4 _ (by have := HK.out; omega) (by rw [HRU.out.recs]; exact ((hd.on hHeld.2.ws.below).up hHeld.2.ws.below.size).take _) hHeld.2.ws.gsHi (fun j x hx => (hHeld.2.ws.saw hx).bare); rw [HK.out] at C6; refine C6.mono ?_; rintro e w3 hw3; obtain ⟨A3, m3, c3, rfl, hb, hA3⟩ := wrote_any hw3; have hz := hb.size; (try simp at hz); (first | (with_reducible have hx := Blk.on (Blk.drew (Blk.made _ _ #[.slice none 0 0])) hb) | (with_reducible have hx := Blk.on (Blk.made _ _ #[.slice none 0 0]) hb) | (with_reducible have hx := Blk.on (cs := #[.slice none 0 0]) (by assumption) hb) | skip); (try have kx := hx.one))
                    try go_wp2_with fail
                    refine hK.out _ _ (by exact ⟨⟨(hHeld.2.on hb).row.at 3, (hHeld.2.on hb).row.at 4⟩, hHeld.2.on hb⟩) (fun hHeld => ?_)
                    clear hK K
                    refine take_run 7 (some 81) (v := ?_) rfl rfl (by kernel_rfl) (by kernel_rfl) (by kernel_rfl) (fun _ _ _ h => h) (by rfl) ?_ hHeld ?_
                    rotate_left
                    · ((intro w hSw); (try dsimp only at hSw); go_simp <;> with_reducible rfl)
                    simp only [Act.put, List.setIfInBounds_toArray, List.set_cons_zero, List.set_cons_succ]
                    refine take_run 8 (some 89) (v := ?_) rfl rfl (by kernel_rfl) (by kernel_rfl) (by kernel_rfl) (fun _ _ _ h => h) (by rfl) ?_ hHeld ?_
                    rotate_left
                    · ((intro w hSw); (try dsimp only at hSw); go_simp <;> with_reducible rfl)
                    simp only [Act.put, List.setIfInBounds_toArray, List.set_cons_zero, List.set_cons_succ]
                    refine take_run 9 (some 90) (v := ?_) rfl rfl (by kernel_rfl) (by kernel_rfl) (by kernel_rfl) (fun _ _ _ h => h) (by rfl) ?_ hHeld ?_
                    rotate_left
                    · ((intro w hSw); (try dsimp only at hSw); go_simp <;> with_reducible rfl)
                    simp only [Act.put, List.setIfInBounds_toArray, List.set_cons_zero, List.set_cons_succ]
                    refine take_one 11 (by kernel_rfl) rfl (fun K hK => ?_)
                    go_simp
                    refine hK.out _ _ (by first | exact ⟨⟨(hHeld.2.swap (by first | omega | (simp <;> omega))).row.at 3, (hHeld.2.swap (by first | omega | (simp <;> omega))).row.at 4⟩, hHeld.2.swap (by first | omega | (simp <;> omega))⟩ | exact ⟨⟨(hHeld.2.aside hx past_ne_tag (by first | omega | (simp <;> omega)) _).row.at 3, (hHeld.2.aside hx past_ne_tag (by first | omega | (simp <;> omega)) _).row.at 4⟩, hHeld.2.aside hx past_ne_tag (by first | omega | (simp <;> omega)) _⟩) (fun hHeld => ?_)
                    clear hK K
                    refine take_run 12 (some 13) (v := ?_) rfl rfl (by kernel_rfl) (by kernel_rfl) (by kernel_rfl) (fun _ _ _ h => h) (by rfl) ?_ hHeld ?_
                    rotate_left
                    · ((intro w hSw); (try dsimp only at hSw); go_simp <;> with_reducible rfl)
                    simp only [Act.put, List.setIfInBounds_toArray, List.set_cons_zero, List.set_cons_succ]
                    refine wpAnyH_done (by kernel_rfl) ?_ _
                    refine NoPanic.normal ?_
                    go_wp2_with fail
                    go_meet
                    first | exact ⟨_, A3, m3, c3, rfl, rfl, Blk.made _ _ _, (by first | omega | (simp <;> omega)), hHeld.2, fun x hx' => (hA3 x hx').elim fun g h => ⟨g, h.1, h.2.1, h.2.2.tk (.alloc _ _)⟩⟩ | exact ⟨_, A3, m3, c3, rfl, rfl, hx.put 0 _, (by first | omega | (simp <;> omega)), hHeld.2, fun x hx' => (hA3 x hx').elim fun g h => ⟨g, h.1, h.2.1, h.2.2.tk (.set hx past_ne_tag _)⟩⟩
                case rest =>
                obtain ⟨p, A, m, cc, rfl, rfl, hBp, hp2, hR2, hA⟩ := hcut
                clear hR1 kr km
                have kr := hR2.row.five
                have km := hR2.mine.one
                have kp := hBp.one
                cases hw : wrote st x3 x4 with
                | none =>
                  have HS := hide (far_stop HRU.out HX.out (stp_gone B1.out HL.out HZ.out hw))
                  simp only [Option.isSome_none]
                  clear hw hA
                  go_wp2_with fail
                  refine wp_region_noPanic ?_
                  refine wp_region_held_drew (S := (fun w' => (w'.cell? ⟨D0, 0, none⟩ = some (.int .i64 (sn : Int)) ∧ w'.cell? ⟨D0, 1, none⟩ = some (.int .i64 x1) ∧ w'.cell? ⟨D0, 2, none⟩ = some (.int .i64 (yn : Int)) ∧ w'.cell? ⟨D0, 3, none⟩ = some (.int .i64 x3) ∧ w'.cell? ⟨D0, 4, none⟩ = some (.int .i64 x4)) ∧ RS w G base gs cap st D0 ((sn : Int), x1, (yn : Int), x3, x4) mg mc (viewOf st (sn : Int)) w')) (by kernel_rfl) (by exact ⟨(hR2.drew).row.five.1, hR2.drew⟩) (fun hHeld => ?_)
                  refine take_run 0 (some 91) (v := ?_) rfl rfl (by kernel_rfl) (by kernel_rfl) (by kernel_rfl) (fun _ _ _ h => h) (by rfl) ?_ hHeld ?_
                  rotate_left
                  · ((intro w hSw); (try dsimp only at hSw); go_simp <;> with_reducible rfl)
                  simp only [Act.put, List.setIfInBounds_toArray, List.set_cons_zero, List.set_cons_succ]
                  refine take_run 1 (some 92) (v := ?_) rfl rfl (by kernel_rfl) (by kernel_rfl) (by kernel_rfl) (fun _ _ _ h => h) (by rfl) ?_ hHeld ?_
                  rotate_left
                  · ((intro w hSw); (try dsimp only at hSw); go_simp <;> with_reducible rfl)
                  simp only [Act.put, List.setIfInBounds_toArray, List.set_cons_zero, List.set_cons_succ]
                  refine take_run 2 (some 93) (v := ?_) rfl rfl (by kernel_rfl) (by kernel_rfl) (by kernel_rfl) (fun _ _ _ h => h) (by rfl) ?_ hHeld ?_
                  rotate_left
                  · ((intro w hSw); (try dsimp only at hSw); go_simp <;> with_reducible rfl)
                  simp only [Act.put, List.setIfInBounds_toArray, List.set_cons_zero, List.set_cons_succ]
                  refine take_skip 3 (some 94) rfl rfl (by kernel_rfl) (by kernel_rfl) (by kernel_rfl) (fun _ _ _ h => h) (by rfl) hHeld ?_
                  simp only [Act.put, List.setIfInBounds_toArray, List.set_cons_zero, List.set_cons_succ]
                  refine take_skip 4 (some 95) rfl rfl (by kernel_rfl) (by kernel_rfl) (by kernel_rfl) (fun _ _ _ h => h) (by rfl) hHeld ?_
                  simp only [Act.put, List.setIfInBounds_toArray, List.set_cons_zero, List.set_cons_succ]
                  refine take_skip 5 (some 96) rfl rfl (by kernel_rfl) (by kernel_rfl) (by kernel_rfl) (fun _ _ _ h => h) (by rfl) hHeld ?_
                  simp only [Act.put, List.setIfInBounds_toArray, List.set_cons_zero, List.set_cons_succ]
                  refine take_skip 6 (some 97) rfl rfl (by kernel_rfl) (by kernel_rfl) (by kernel_rfl) (fun _ _ _ h => h) (by rfl) hHeld ?_
                  simp only [Act.put, List.setIfInBounds_toArray, List.set_cons_zero, List.set_cons_succ]
                  refine take_skip 7 (some 98) rfl rfl (by kernel_rfl) (by kernel_rfl) (by kernel_rfl) (fun _ _ _ h => h) (by rfl) hHeld ?_
                  simp only [Act.put, List.setIfInBounds_toArray, List.set_cons_zero, List.set_cons_succ]
                  refine take_skip 8 (some 99) rfl rfl (by kernel_rfl) (by kernel_rfl) (by kernel_rfl) (fun _ _ _ h => h) (by rfl) hHeld ?_
                  simp only [Act.put, List.setIfInBounds_toArray, List.set_cons_zero, List.set_cons_succ]
                  refine take_run 9 (some 100) (v := ?_) rfl rfl (by kernel_rfl) (by kernel_rfl) (by kernel_rfl) (fun _ _ _ h => h) (by rfl) ?_ hHeld ?_
                  rotate_left
                  · ((intro w hSw); (try dsimp only at hSw); go_simp <;> with_reducible rfl)
                  simp only [Act.put, List.setIfInBounds_toArray, List.set_cons_zero, List.set_cons_succ]
                  refine take_run 10 (some 101) (v := ?_) rfl rfl (by kernel_rfl) (by kernel_rfl) (by kernel_rfl) (fun _ _ _ h => h) (by rfl) ?_ hHeld ?_
                  rotate_left
                  · ((intro w hSw); (try dsimp only at hSw); go_simp <;> with_reducible rfl)
                  simp only [Act.put, List.setIfInBounds_toArray, List.set_cons_zero, List.set_cons_succ]
                  refine take_skip 11 (some 102) rfl rfl (by kernel_rfl) (by kernel_rfl) (by kernel_rfl) (fun _ _ _ h => h) (by rfl) hHeld ?_
                  simp only [Act.put, List.setIfInBounds_toArray, List.set_cons_zero, List.set_cons_succ]
                  refine take_skip 12 (some 103) rfl rfl (by kernel_rfl) (by kernel_rfl) (by kernel_rfl) (fun _ _ _ h => h) (by rfl) hHeld ?_
                  simp only [Act.put, List.setIfInBounds_toArray, List.set_cons_zero, List.set_cons_succ]
                  refine take_skip 13 (some 104) rfl rfl (by kernel_rfl) (by kernel_rfl) (by kernel_rfl) (fun _ _ _ h => h) (by rfl) hHeld ?_
                  simp only [Act.put, List.setIfInBounds_toArray, List.set_cons_zero, List.set_cons_succ]
                  refine take_skip 14 (some 105) rfl rfl (by kernel_rfl) (by kernel_rfl) (by kernel_rfl) (fun _ _ _ h => h) (by rfl) hHeld ?_
                  simp only [Act.put, List.setIfInBounds_toArray, List.set_cons_zero, List.set_cons_succ]
                  refine take_skip 15 (some 106) rfl rfl (by kernel_rfl) (by kernel_rfl) (by kernel_rfl) (fun _ _ _ h => h) (by rfl) hHeld ?_
                  simp only [Act.put, List.setIfInBounds_toArray, List.set_cons_zero, List.set_cons_succ]
                  refine take_skip 16 (some 107) rfl rfl (by kernel_rfl) (by kernel_rfl) (by kernel_rfl) (fun _ _ _ h => h) (by rfl) hHeld ?_
                  simp only [Act.put, List.setIfInBounds_toArray, List.set_cons_zero, List.set_cons_succ]
                  refine take_skip 17 (some 108) rfl rfl (by kernel_rfl) (by kernel_rfl) (by kernel_rfl) (fun _ _ _ h => h) (by rfl) hHeld ?_
                  simp only [Act.put, List.setIfInBounds_toArray, List.set_cons_zero, List.set_cons_succ]
                  refine take_skip 18 (some 109) rfl rfl (by kernel_rfl) (by kernel_rfl) (by kernel_rfl) (fun _ _ _ h => h) (by rfl) hHeld ?_
                  simp only [Act.put, List.setIfInBounds_toArray, List.set_cons_zero, List.set_cons_succ]
                  refine take_skip 19 (some 110) rfl rfl (by kernel_rfl) (by kernel_rfl) (by kernel_rfl) (fun _ _ _ h => h) (by rfl) hHeld ?_
                  simp only [Act.put, List.setIfInBounds_toArray, List.set_cons_zero, List.set_cons_succ]
                  refine take_skip 20 (some 111) rfl rfl (by kernel_rfl) (by kernel_rfl) (by kernel_rfl) (fun _ _ _ h => h) (by rfl) hHeld ?_
                  simp only [Act.put, List.setIfInBounds_toArray, List.set_cons_zero, List.set_cons_succ]
                  refine take_skip 21 (some 112) rfl rfl (by kernel_rfl) (by kernel_rfl) (by kernel_rfl) (fun _ _ _ h => h) (by rfl) hHeld ?_
                  simp only [Act.put, List.setIfInBounds_toArray, List.set_cons_zero, List.set_cons_succ]
                  refine take_run 22 (some 113) (v := ?_) rfl rfl (by kernel_rfl) (by kernel_rfl) (by kernel_rfl) (fun _ _ _ h => h) (by rfl) ?_ hHeld ?_
                  rotate_left
                  · ((intro w hSw); (try dsimp only at hSw); go_simp <;> with_reducible rfl)
                  simp only [Act.put, List.setIfInBounds_toArray, List.set_cons_zero, List.set_cons_succ]
                  refine wpAnyH_done (by kernel_rfl) ?_ _
                  refine NoPanic.normal ?_
                  go_wp2
                  refine bodyPost_ret (v := .tuple #[.slice (some ⟨gs, 0, none⟩) k cap, .int .i64 (k : Int)]) (by simp [results, Try.results68, go_sem]) rfl ?_
                  exact hHeld.2.ws.walked HK.out HRU.out HS.out
                | some x =>
                  obtain ⟨wg, rfl, rfl, hwt⟩ := hA x hw
                  have HW : Hid (st.2.find? (isW x3 x4) = some x) := hw
                  simp only [Option.isSome_some]
                  clear hw hA
                  cases hk : (x.1.2.2.1 == (yn : Int)) with
                  | false =>
                    have HKY := hide hk
                    have HS := hide (far_stop HRU.out HX.out (stp_key B1.out HL.out HZ.out HW.out hk))
                    clear hk
                    go_wp2_with fail
                    refine wp_region_noPanic ?_
                    refine wp_region_held_drew (S := (fun w' => (w'.cell? ⟨D0, 0, none⟩ = some (.int .i64 (sn : Int)) ∧ w'.cell? ⟨D0, 1, none⟩ = some (.int .i64 x1) ∧ w'.cell? ⟨D0, 2, none⟩ = some (.int .i64 (yn : Int)) ∧ w'.cell? ⟨D0, 3, none⟩ = some (.int .i64 x3) ∧ w'.cell? ⟨D0, 4, none⟩ = some (.int .i64 x4)) ∧ RS w G base gs cap st D0 ((sn : Int), x1, (yn : Int), x3, x4) mg mc (viewOf st (sn : Int)) w' ∧ (Blk w' p 35 #[.slice (some ⟨wg, 0, none⟩) 4 cc] ∧ TB w' wg x.2))) (by kernel_rfl) (by exact ⟨(hR2.drew).row.five.1, hR2.drew, hBp.drew, hwt.tk (.drew _)⟩) (fun hHeld => ?_)
                    refine take_run 0 (some 91) (v := ?_) rfl rfl (by kernel_rfl) (by kernel_rfl) (by kernel_rfl) (fun _ _ _ h => h) (by rfl) ?_ hHeld ?_
                    rotate_left
                    · ((intro w hSw); (try dsimp only at hSw); go_simp <;> with_reducible rfl)
                    simp only [Act.put, List.setIfInBounds_toArray, List.set_cons_zero, List.set_cons_succ]
                    refine take_run 1 (some 92) (v := ?_) rfl rfl (by kernel_rfl) (by kernel_rfl) (by kernel_rfl) (fun _ _ _ h => h) (by rfl) ?_ hHeld ?_
                    rotate_left
                    · ((intro w hSw); (try dsimp only at hSw); go_simp <;> with_reducible rfl)
                    simp only [Act.put, List.setIfInBounds_toArray, List.set_cons_zero, List.set_cons_succ]
                    refine take_run 2 (some 93) (v := ?_) rfl rfl (by kernel_rfl) (by kernel_rfl) (by kernel_rfl) (fun _ _ _ h => h) (by rfl) ?_ hHeld ?_
                    rotate_left
                    · ((intro w hSw); (try dsimp only at hSw); go_simp <;> with_reducible rfl)
                    simp only [Act.put, List.setIfInBounds_toArray, List.set_cons_zero, List.set_cons_succ]
                    refine take_run 3 (some 94) (v := ?_) rfl rfl (by kernel_rfl) (by kernel_rfl) (by kernel_rfl) (fun _ _ _ h => h) (by rfl) ?_ hHeld ?_
                    rotate_left
                    · ((intro w hSw); (try dsimp only at hSw); go_simp <;> with_reducible rfl)
                    simp only [Act.put, List.setIfInBounds_toArray, List.set_cons_zero, List.set_cons_succ]
                    refine take_run 4 (some 95) (v := ?_) rfl rfl (by kernel_rfl) (by kernel_rfl) (by kernel_rfl) (fun _ _ _ h => h) (by rfl) ?_ hHeld ?_
                    rotate_left
                    · ((intro w hSw); (try dsimp only at hSw); go_simp <;> with_reducible rfl)
                    simp only [Act.put, List.setIfInBounds_toArray, List.set_cons_zero, List.set_cons_succ]
                    refine take_run 5 (some 96) (v := ?_) rfl rfl (by kernel_rfl) (by kernel_rfl) (by kernel_rfl) (fun _ _ _ h => h) (by rfl) ?_ hHeld ?_
                    rotate_left
                    · ((intro w hSw); (try dsimp only at hSw); go_simp <;> with_reducible rfl)
                    simp only [Act.put, List.setIfInBounds_toArray, List.set_cons_zero, List.set_cons_succ]
                    refine take_run 6 (some 97) (v := ?_) rfl rfl (by kernel_rfl) (by kernel_rfl) (by kernel_rfl) (fun _ _ _ h => h) (by rfl) ?_ hHeld ?_
                    rotate_left
                    · ((intro w hSw); (try dsimp only at hSw); go_simp <;> with_reducible rfl)
                    simp only [Act.put, List.setIfInBounds_toArray, List.set_cons_zero, List.set_cons_succ]
                    refine take_one 7 (by kernel_rfl) rfl (fun K hK => ?_)
                    go_simp
                    (have C7 := l6Of_any (some ⟨b, off, none⟩) c st.2 (sn : Int) x1 (yn : Int) x3 x4 _ (by have := HK.out; omega) (by rw [HRU.out.recs]; exact ((hd.on hHeld.2.1.ws.below).up hHeld.2.1.ws.below.size).take _); rw [HK.out] at C7; simp only [HW.out, HKY.out] at C7; refine C7.mono ?_; rintro e w4 ⟨rfl, hb⟩)
                    try go_wp2_with fail
                    refine hK.out _ _ (by exact ⟨(hHeld.2.1.on hb).row.five.1, hHeld.2.1.on hb, hHeld.2.2.1.on hb, hHeld.2.2.2.on hb⟩) (fun hHeld => ?_)
                    clear hK K
                    refine take_run 8 (some 99) (v := ?_) rfl rfl (by kernel_rfl) (by kernel_rfl) (by kernel_rfl) (fun _ _ _ h => h) (by rfl) ?_ hHeld ?_
                    rotate_left
                    · ((intro w hSw); (try dsimp only at hSw); go_simp <;> with_reducible rfl)
                    simp only [Act.put, List.setIfInBounds_toArray, List.set_cons_zero, List.set_cons_succ]
                    refine take_run 9 (some 100) (v := ?_) rfl rfl (by kernel_rfl) (by kernel_rfl) (by kernel_rfl) (fun _ _ _ h => h) (by rfl) ?_ hHeld ?_
                    rotate_left
                    · ((intro w hSw); (try dsimp only at hSw); go_simp <;> with_reducible rfl)
                    simp only [Act.put, List.setIfInBounds_toArray, List.set_cons_zero, List.set_cons_succ]
                    refine take_run 10 (some 101) (v := ?_) rfl rfl (by kernel_rfl) (by kernel_rfl) (by kernel_rfl) (fun _ _ _ h => h) (by rfl) ?_ hHeld ?_
                    rotate_left
                    · ((intro w hSw); (try dsimp only at hSw); go_simp <;> with_reducible rfl)
                    simp only [Act.put, List.setIfInBounds_toArray, List.set_cons_zero, List.set_cons_succ]
                    refine take_skip 11 (some 102) rfl rfl (by kernel_rfl) (by kernel_rfl) (by kernel_rfl) (fun _ _ _ h => h) (by rfl) hHeld ?_
                    simp only [Act.put, List.setIfInBounds_toArray, List.set_cons_zero, List.set_cons_succ]
                    refine take_skip 12 (some 103) rfl rfl (by kernel_rfl) (by kernel_rfl) (by kernel_rfl) (fun _ _ _ h => h) (by rfl) hHeld ?_
                    simp only [Act.put, List.setIfInBounds_toArray, List.set_cons_zero, List.set_cons_succ]
                    refine take_skip 13 (some 104) rfl rfl (by kernel_rfl) (by kernel_rfl) (by kernel_rfl) (fun _ _ _ h => h) (by rfl) hHeld ?_
                    simp only [Act.put, List.setIfInBounds_toArray, List.set_cons_zero, List.set_cons_succ]
                    refine take_skip 14 (some 105) rfl rfl (by kernel_rfl) (by kernel_rfl) (by kernel_rfl) (fun _ _ _ h => h) (by rfl) hHeld ?_
                    simp only [Act.put, List.setIfInBounds_toArray, List.set_cons_zero, List.set_cons_succ]
                    refine take_skip 15 (some 106) rfl rfl (by kernel_rfl) (by kernel_rfl) (by kernel_rfl) (fun _ _ _ h => h) (by rfl) hHeld ?_
                    simp only [Act.put, List.setIfInBounds_toArray, List.set_cons_zero, List.set_cons_succ]
                    refine take_skip 16 (some 107) rfl rfl (by kernel_rfl) (by kernel_rfl) (by kernel_rfl) (fun _ _ _ h => h) (by rfl) hHeld ?_
                    simp only [Act.put, List.setIfInBounds_toArray, List.set_cons_zero, List.set_cons_succ]
                    refine take_skip 17 (some 108) rfl rfl (by kernel_rfl) (by kernel_rfl) (by kernel_rfl) (fun _ _ _ h => h) (by rfl) hHeld ?_
                    simp only [Act.put, List.setIfInBounds_toArray, List.set_cons_zero, List.set_cons_succ]
                    refine take_skip 18 (some 109) rfl rfl (by kernel_rfl) (by kernel_rfl) (by kernel_rfl) (fun _ _ _ h => h) (by rfl) hHeld ?_
                    simp only [Act.put, List.setIfInBounds_toArray, List.set_cons_zero, List.set_cons_succ]
                    refine take_skip 19 (some 110) rfl rfl (by kernel_rfl) (by kernel_rfl) (by kernel_rfl) (fun _ _ _ h => h) (by rfl) hHeld ?_
                    simp only [Act.put, List.setIfInBounds_toArray, List.set_cons_zero, List.set_cons_succ]
                    refine take_skip 20 (some 111) rfl rfl (by kernel_rfl) (by kernel_rfl) (by kernel_rfl) (fun _ _ _ h => h) (by rfl) hHeld ?_
                    simp only [Act.put, List.setIfInBounds_toArray, List.set_cons_zero, List.set_cons_succ]
                    refine take_skip 21 (some 112) rfl rfl (by kernel_rfl) (by kernel_rfl) (by kernel_rfl) (fun _ _ _ h => h) (by rfl) hHeld ?_
                    simp only [Act.put, List.setIfInBounds_toArray, List.set_cons_zero, List.set_cons_succ]
                    refine take_run 22 (some 113) (v := ?_) rfl rfl (by kernel_rfl) (by kernel_rfl) (by kernel_rfl) (fun _ _ _ h => h) (by rfl) ?_ hHeld ?_
                    rotate_left
                    · ((intro w hSw); (try dsimp only at hSw); go_simp <;> with_reducible rfl)
                    simp only [Act.put, List.setIfInBounds_toArray, List.set_cons_zero, List.set_cons_succ]
                    refine wpAnyH_done (by kernel_rfl) ?_ _
                    refine NoPanic.normal ?_
                    go_wp2
                    refine bodyPost_ret (v := .tuple #[.slice (some ⟨gs, 0, none⟩) k cap, .int .i64 (k : Int)]) (by simp [results, Try.results68, go_sem]) rfl ?_
                    exact hHeld.2.1.ws.walked HK.out HRU.out HS.out
                  | true =>
                    have HKY := hide hk
                    clear hk
                    have hx1 : x1 = 2 ∨ x1 = 3 := by omega
                    rcases hx1 with rfl | rfl
                    · have HS := hide (runs_step HRU.out HX.out (stp_read B1.out HL.out HZ.out HW.out HKY.out rfl))
                      simp only [Int.toNat_natCast] at HS
                      clear d1 h1
                      go_wp2_with fail
                      refine wp_region_noPanic ?_
                      refine wp_region_held_drew (S := (fun w' => (w'.cell? ⟨D0, 0, none⟩ = some (.int .i64 (sn : Int)) ∧ w'.cell? ⟨D0, 1, none⟩ = some (.int .i64 2) ∧ w'.cell? ⟨D0, 2, none⟩ = some (.int .i64 (yn : Int)) ∧ w'.cell? ⟨D0, 3, none⟩ = some (.int .i64 x3) ∧ w'.cell? ⟨D0, 4, none⟩ = some (.int .i64 x4)) ∧ RS w G base gs cap st D0 ((sn : Int), 2, (yn : Int), x3, x4) mg mc (viewOf st (sn : Int)) w' ∧ (Blk w' p 35 #[.slice (some ⟨wg, 0, none⟩) 4 cc] ∧ TB w' wg x.2))) (by kernel_rfl) (by exact ⟨(hR2.drew).row.five.1, hR2.drew, hBp.drew, hwt.tk (.drew _)⟩) (fun hHeld => ?_)
                      refine take_run 0 (some 91) (v := ?_) rfl rfl (by kernel_rfl) (by kernel_rfl) (by kernel_rfl) (fun _ _ _ h => h) (by rfl) ?_ hHeld ?_
                      rotate_left
                      · ((intro w hSw); (try dsimp only at hSw); go_simp <;> with_reducible rfl)
                      simp only [Act.put, List.setIfInBounds_toArray, List.set_cons_zero, List.set_cons_succ]
                      refine take_run 1 (some 92) (v := ?_) rfl rfl (by kernel_rfl) (by kernel_rfl) (by kernel_rfl) (fun _ _ _ h => h) (by rfl) ?_ hHeld ?_
                      rotate_left
                      · ((intro w hSw); (try dsimp only at hSw); go_simp <;> with_reducible rfl)
                      simp only [Act.put, List.setIfInBounds_toArray, List.set_cons_zero, List.set_cons_succ]
                      refine take_run 2 (some 93) (v := ?_) rfl rfl (by kernel_rfl) (by kernel_rfl) (by kernel_rfl) (fun _ _ _ h => h) (by rfl) ?_ hHeld ?_
                      rotate_left
                      · ((intro w hSw); (try dsimp only at hSw); go_simp <;> with_reducible rfl)
                      simp only [Act.put, List.setIfInBounds_toArray, List.set_cons_zero, List.set_cons_succ]
                      refine take_run 3 (some 94) (v := ?_) rfl rfl (by kernel_rfl) (by kernel_rfl) (by kernel_rfl) (fun _ _ _ h => h) (by rfl) ?_ hHeld ?_
                      rotate_left
                      · ((intro w hSw); (try dsimp only at hSw); go_simp <;> with_reducible rfl)
                      simp only [Act.put, List.setIfInBounds_toArray, List.set_cons_zero, List.set_cons_succ]
                      refine take_run 4 (some 95) (v := ?_) rfl rfl (by kernel_rfl) (by kernel_rfl) (by kernel_rfl) (fun _ _ _ h => h) (by rfl) ?_ hHeld ?_
                      rotate_left
                      · ((intro w hSw); (try dsimp only at hSw); go_simp <;> with_reducible rfl)
                      simp only [Act.put, List.setIfInBounds_toArray, List.set_cons_zero, List.set_cons_succ]
                      refine take_run 5 (some 96) (v := ?_) rfl rfl (by kernel_rfl) (by kernel_rfl) (by kernel_rfl) (fun _ _ _ h => h) (by rfl) ?_ hHeld ?_
                      rotate_left
                      · ((intro w hSw); (try dsimp only at hSw); go_simp <;> with_reducible rfl)
                      simp only [Act.put, List.setIfInBounds_toArray, List.set_cons_zero, List.set_cons_succ]
                      refine take_run 6 (some 97) (v := ?_) rfl rfl (by kernel_rfl) (by kernel_rfl) (by kernel_rfl) (fun _ _ _ h => h) (by rfl) ?_ hHeld ?_
                      rotate_left
                      · ((intro w hSw); (try dsimp only at hSw); go_simp <;> with_reducible rfl)
                      simp only [Act.put, List.setIfInBounds_toArray, List.set_cons_zero, List.set_cons_succ]
                      refine take_one 7 (by kernel_rfl) rfl (fun K hK => ?_)
                      go_simp
                      (have C7 := l6Of_any (some ⟨b, off, none⟩) c st.2 (sn : Int) 2 (yn : Int) x3 x4 _ (by have := HK.out; omega) (by rw [HRU.out.recs]; exact ((hd.on hHeld.2.1.ws.below).up hHeld.2.1.ws.below.size).take _); rw [HK.out] at C7; simp only [HW.out, HKY.out] at C7; refine C7.mono ?_; rintro e w4 ⟨rfl, hb⟩)
                      try go_wp2_with fail
                      refine hK.out _ _ (by exact ⟨(hHeld.2.1.on hb).row.five.1, hHeld.2.1.on hb, hHeld.2.2.1.on hb, hHeld.2.2.2.on hb⟩) (fun hHeld => ?_)
                      clear hK K
                      refine take_run 8 (some 99) (v := ?_) rfl rfl (by kernel_rfl) (by kernel_rfl) (by kernel_rfl) (fun _ _ _ h => h) (by rfl) ?_ hHeld ?_
                      rotate_left
                      · ((intro w hSw); (try dsimp only at hSw); go_simp <;> with_reducible rfl)
                      simp only [Act.put, List.setIfInBounds_toArray, List.set_cons_zero, List.set_cons_succ]
                      refine take_run 9 (some 100) (v := ?_) rfl rfl (by kernel_rfl) (by kernel_rfl) (by kernel_rfl) (fun _ _ _ h => h) (by rfl) ?_ hHeld ?_
                      rotate_left
                      · ((intro w hSw); (try dsimp only at hSw); go_simp <;> with_reducible rfl)
                      simp only [Act.put, List.setIfInBounds_toArray, List.set_cons_zero, List.set_cons_succ]
                      refine take_run 10 (some 101) (v := ?_) rfl rfl (by kernel_rfl) (by kernel_rfl) (by kernel_rfl) (fun _ _ _ h => h) (by rfl) ?_ hHeld ?_
                      rotate_left
                      · ((intro w hSw); (try dsimp only at hSw); go_simp <;> with_reducible rfl)
                      simp only [Act.put, List.setIfInBounds_toArray, List.set_cons_zero, List.set_cons_succ]
                      refine take_run 11 (some 102) (v := ?_) rfl rfl (by kernel_rfl) (by kernel_rfl) (by kernel_rfl) (fun _ _ _ h => h) (by rfl) ?_ hHeld ?_
                      rotate_left
                      · ((intro w hSw); (try dsimp only at hSw); go_simp <;> with_reducible rfl)
                      simp only [Act.put, List.setIfInBounds_toArray, List.set_cons_zero, List.set_cons_succ]
                      refine take_run 12 (some 103) (v := ?_) rfl rfl (by kernel_rfl) (by kernel_rfl) (by kernel_rfl) (fun _ _ _ h => h) (by rfl) ?_ hHeld ?_
                      rotate_left
                      · ((intro w hSw); (try dsimp only at hSw); go_simp <;> with_reducible rfl)
                      simp only [Act.put, List.setIfInBounds_toArray, List.set_cons_zero, List.set_cons_succ]
                      refine take_run 13 (some 104) (v := ?_) rfl rfl (by kernel_rfl) (by kernel_rfl) (by kernel_rfl) (fun _ _ _ h => h) (by rfl) ?_ hHeld ?_
                      rotate_left
                      · ((intro w hSw); (try dsimp only at hSw); go_simp <;> with_reducible rfl)
                      simp only [Act.put, List.setIfInBounds_toArray, List.set_cons_zero, List.set_cons_succ]
                      refine take_run 14 (some 105) (v := ?_) rfl rfl (by kernel_rfl) (by kernel_rfl) (by kernel_rfl) (fun _ _ _ h => h) (by rfl) ?_ hHeld ?_
                      rotate_left
                      · ((intro w hSw); (try dsimp only at hSw); go_simp <;> with_reducible rfl)
                      simp only [Act.put, List.setIfInBounds_toArray, List.set_cons_zero, List.set_cons_succ]
                      refine take_skip 15 (some 106) rfl rfl (by kernel_rfl) (by kernel_rfl) (by kernel_rfl) (fun _ _ _ h => h) (by rfl) hHeld ?_
                      simp only [Act.put, List.setIfInBounds_toArray, List.set_cons_zero, List.set_cons_succ]
                      refine take_skip 16 (some 107) rfl rfl (by kernel_rfl) (by kernel_rfl) (by kernel_rfl) (fun _ _ _ h => h) (by rfl) hHeld ?_
                      simp only [Act.put, List.setIfInBounds_toArray, List.set_cons_zero, List.set_cons_succ]
                      refine take_skip 17 (some 108) rfl rfl (by kernel_rfl) (by kernel_rfl) (by kernel_rfl) (fun _ _ _ h => h) (by rfl) hHeld ?_
                      simp only [Act.put, List.setIfInBounds_toArray, List.set_cons_zero, List.set_cons_succ]
                      refine take_skip 18 (some 109) rfl rfl (by kernel_rfl) (by kernel_rfl) (by kernel_rfl) (fun _ _ _ h => h) (by rfl) hHeld ?_
                      simp only [Act.put, List.setIfInBounds_toArray, List.set_cons_zero, List.set_cons_succ]
                      refine take_skip 19 (some 110) rfl rfl (by kernel_rfl) (by kernel_rfl) (by kernel_rfl) (fun _ _ _ h => h) (by rfl) hHeld ?_
                      simp only [Act.put, List.setIfInBounds_toArray, List.set_cons_zero, List.set_cons_succ]
                      refine take_skip 20 (some 111) rfl rfl (by kernel_rfl) (by kernel_rfl) (by kernel_rfl) (fun _ _ _ h => h) (by rfl) hHeld ?_
                      simp only [Act.put, List.setIfInBounds_toArray, List.set_cons_zero, List.set_cons_succ]
                      refine take_run 21 (some 112) (v := ?_) rfl rfl (by kernel_rfl) (by kernel_rfl) (by kernel_rfl) (fun _ _ _ h => h) (by rfl) ?_ hHeld ?_
                      rotate_left
                      · ((intro w hSw); (try dsimp only at hSw); go_simp <;> with_reducible rfl)
                      simp only [Act.put, List.setIfInBounds_toArray, List.set_cons_zero, List.set_cons_succ]
                      refine take_run 22 (some 113) (v := ?_) rfl rfl (by kernel_rfl) (by kernel_rfl) (by kernel_rfl) (fun _ _ _ h => h) (by rfl) ?_ hHeld ?_
                      rotate_left
                      · ((intro w hSw); (try dsimp only at hSw); go_simp <;> with_reducible rfl)
                      simp only [Act.put, List.setIfInBounds_toArray, List.set_cons_zero, List.set_cons_succ]
                      refine wpAnyH_done (by kernel_rfl) ?_ _
                      refine NoPanic.normal ?_
                      have hR3 := hHeld.2.1
                      have hP3 := hHeld.2.2.1
                      have hT3 := hHeld.2.2.2
                      clear hHeld hR2 kr km kp hBp hwt
                      have km := hR3.mine.one
                      have hl1 := HOK.out
                      have HV4 := hide (viewOf_len HOK.out (sn : Int))
                      have HX4 := hide (wrote_len (st := st) HOK.out HW.out)
                      clear hl1
                      go_upto_region 23 with (fail)
                      refine wp_region_noPanic ?_
                      refine wp_region_held_drew (S := (fun w' => (w'.cell? ⟨D0, 2, none⟩ = some (.int .i64 (yn : Int)) ∧ w'.cell? ⟨D0, 3, none⟩ = some (.int .i64 x3) ∧ w'.cell? ⟨D0, 4, none⟩ = some (.int .i64 x4) ∧ w'.cell? ⟨p, 0, none⟩ = some (.slice (some ⟨wg, 0, none⟩) 4 cc)) ∧ (∃ mg' mc' mv', RS w G base gs cap st D0 ((sn : Int), 2, (yn : Int), x3, x4) mg' mc' mv' w') ∧ (Blk w' p 35 #[.slice (some ⟨wg, 0, none⟩) 4 cc] ∧ TB w' wg x.2 ∧ TB w' mg (viewOf st (sn : Int))))) (by kernel_rfl) (by exact ⟨⟨(hR3.drew).row.at 2, (hR3.drew).row.at 3, (hR3.drew).row.at 4, (hP3.drew).at 0⟩, ⟨_, _, _, hR3.drew⟩, hP3.drew, hT3.tk (.drew _), hR3.tb.tk (.drew _)⟩) (fun hHeld => ?_)
                      refine take_run 1 (some 117) (v := ?_) rfl rfl (by kernel_rfl) (by kernel_rfl) (by kernel_rfl) (fun _ _ _ h => h) (by rfl) ?_ hHeld ?_
                      rotate_left
                      · ((intro w hSw); (try dsimp only at hSw); go_simp <;> with_reducible rfl)
                      simp only [Act.put, List.setIfInBounds_toArray, List.set_cons_zero, List.set_cons_succ]
                      refine take_run 3 (some 119) (v := ?_) rfl rfl (by kernel_rfl) (by kernel_rfl) (by kernel_rfl) (fun _ _ _ h => h) (by rfl) ?_ hHeld ?_
                      rotate_left
                      · ((intro w hSw); (try dsimp only at hSw); go_simp <;> with_reducible rfl)
                      simp only [Act.put, List.setIfInBounds_toArray, List.set_cons_zero, List.set_cons_succ]
                      refine take_run 4 (some 120) (v := ?_) rfl rfl (by kernel_rfl) (by kernel_rfl) (by kernel_rfl) (fun _ _ _ h => h) (by rfl) ?_ hHeld ?_
                      rotate_left
                      · ((intro w hSw); (try dsimp only at hSw); go_simp <;> with_reducible rfl)
                      simp only [Act.put, List.setIfInBounds_toArray, List.set_cons_zero, List.set_cons_succ]
                      refine take_run 5 (some 121) (v := ?_) rfl rfl (by kernel_rfl) (by kernel_rfl) (by kernel_rfl) (fun _ _ _ h => h) (by rfl) ?_ hHeld ?_
                      rotate_left
                      · ((intro w hSw); (try dsimp only at hSw); go_simp <;> with_reducible rfl)
                      simp only [Act.put, List.setIfInBounds_toArray, List.set_cons_zero, List.set_cons_succ]
                      refine take_run 6 (some 122) (v := ?_) rfl rfl (by kernel_rfl) (by kernel_rfl) (by kernel_rfl) (fun _ _ _ h => h) (by rfl) ?_ hHeld ?_
                      rotate_left
                      · ((intro w hSw); (try dsimp only at hSw); go_simp <;> with_reducible rfl)
                      simp only [Act.put, List.setIfInBounds_toArray, List.set_cons_zero, List.set_cons_succ]
                      refine take_one 0 (by kernel_rfl) rfl (fun K hK => ?_)
                      go_simp
                      refine hK.out _ _ (by exact hHeld) (fun hHeld => ?_)
                      clear hK K
                      refine take_one 2 (by kernel_rfl) rfl (fun K hK => ?_)
                      go_simp
                      (refine (l1Join_any (some ⟨mg, 0, none⟩) (some ⟨wg, 0, none⟩) mc cc (viewOf st (sn : Int)) x.2 _ HV4.out HX4.out hHeld.2.2.2.2.tg hHeld.2.2.2.1.tg).mono ?_; rintro e w5 ⟨g5, cap5, T5, cur5, rfl, hg5, hB5, hs5, hc5, hb⟩; have HC5 := hide hc5; clear hc5; obtain ⟨_, _, _, hr0⟩ := hHeld.2.1)
                      try go_wp2_with fail
                      refine hK.out _ _ (by exact ⟨⟨(hr0.on hb).row.at 2, (hr0.on hb).row.at 3, (hr0.on hb).row.at 4, (hHeld.2.2.1.on hb).at 0⟩, ⟨_, _, _, hr0.on hb⟩, hHeld.2.2.1.on hb, hHeld.2.2.2.1.on hb, hHeld.2.2.2.2.on hb⟩) (fun hHeld => ?_)
                      clear hK K
                      refine take_one 7 (by kernel_rfl) rfl (fun K hK => ?_)
                      go_simp
                      (refine (l1With_any (some ⟨g5, 0, none⟩) cap5 yn (mxL (viewOf st (sn : Int)) x.2) x3 x4 _ (by unfold mxL; simp [HV4.out, HX4.out]) hyn (Tg.of hB5 hB5.inside HC5.out)).mono ?_; rintro e w6 ⟨g6, cap6, rfl, hg6, htb6, hb⟩; obtain ⟨_, _, _, hr0⟩ := hHeld.2.1; have hR6 := (hr0.on hb).turn (nc := cap6) htb6 (by have := hr0.ws.below.size; omega); have hM6 := (hr0.on hb).mine; have km6 := hM6.one)
                      try go_wp2_with fail
                      refine hK.out _ _ (by exact ⟨⟨(hr0.on hb).row.at 2, (hr0.on hb).row.at 3, (hr0.on hb).row.at 4, (hHeld.2.2.1.on hb).at 0⟩, ⟨_, _, _, hr0.on hb⟩, hHeld.2.2.1.on hb, hHeld.2.2.2.1.on hb, hHeld.2.2.2.2.on hb⟩) (fun hHeld => ?_)
                      clear hK K
                      refine take_one 8 (by kernel_rfl) rfl (fun K hK => ?_)
                      go_simp
                      refine hK.out _ _ (by exact ⟨⟨(hR6).row.at 2, (hR6).row.at 3, (hR6).row.at 4, (hHeld.2.2.1.aside (p := ⟨D0 + 1, 0, none⟩) (by simp only; omega) _).at 0⟩, ⟨_, _, _, hR6⟩, hHeld.2.2.1.aside (p := ⟨D0 + 1, 0, none⟩) (by simp only; omega) _, hHeld.2.2.2.1.tk (.set (p := ⟨D0 + 1, 0, none⟩) hM6 past_ne_tag _), hHeld.2.2.2.2.tk (.set (p := ⟨D0 + 1, 0, none⟩) hM6 past_ne_tag _)⟩) (fun hHeld => ?_)
                      clear hK K
                      refine wpAnyH_done (by kernel_rfl) ?_ _
                      refine NoPanic.normal ?_
                      clear hHeld hR3 hP3 hT3 km hB5 HC5 hM6 km6 htb6 hr0
                      generalize w6.setCell ⟨D0 + 1, 0, none⟩ (.slice (some ⟨g6, 0, none⟩) 4 cap6) = W7 at hR6 ⊢
                      skip
                      have kr := hR6.row.five
                      have km := hR6.mine.one
                      have lz := hR6.ws.loose sn
                      obtain ⟨gq, cq, hcq, -⟩ := hR6.ws.see (view_at HOK.out hsn)
                      have hGlt : G < W7.heap.size := by have := hR6.ws.hi; have := hR6.ws.room; omega
                      have hGD : G ≠ D0 + 1 := by have := hR6.ws.hi; have := hR6.lo; omega
                      have hW8 := hR6.ws.put (mc := cap6) hsn hR6.tb hR6.mlo
                      have hmlo8 := hR6.mlo
                      have hM8 := hR6.mine.aside (p := ⟨G, sn, none⟩) (fun e => hGD e.symm) (.slice (some ⟨g6, 0, none⟩) 4 cap6)
                      have hT8 : TB (W7.setCell ⟨G, sn, none⟩ (.slice (some ⟨g6, 0, none⟩) 4 cap6)) g6 (withT (mxL (viewOf st (sn : Int)) x.2) (yn : Int) x3 x4) := by obtain ⟨c1, b1, _⟩ := hR6.ws.sees; exact hR6.tb.tk (.set (p := ⟨G, sn, none⟩) b1 past_ne_tag _)
                      have HW8 := hide hW8
                      have HM8 := hide hM8
                      have HT8 := hide hT8
                      clear hW8 hM8 hT8
                      go_upto_region 25 with (fail)
                      have hW8 := HW8.out
                      have hM8 := HM8.out
                      have hT8 := HT8.out
                      clear HW8 HM8 HT8 kr km lz hcq
                      generalize W7.setCell ⟨G, sn, none⟩ (.slice (some ⟨g6, 0, none⟩) 4 cap6) = W8 at hW8 hM8 hT8 ⊢
                      have km := hM8.one
                      obtain ⟨xs, ho, hxs⟩ := hW8.owns
                      dsimp only at ho hxs
                      rw [HK.out] at ho
                      have HO := hide ho
                      have hzr := hW8.room
                      clear ho
                      go_wp2_with (at_builtin; refine wpList_append_lies _ rfl (.tmp 129) (.tmp 131) 64 rfl base 35 i0 _ 1 24 Try.underlying64 I0.out I1.out I2.out I3.out rfl (by omega) (.slice (some ⟨gs, 0, none⟩) k cap) k _ rfl (HO.out.alloc _) ⟨W8.heap.size, 0, none⟩ 1 1 [.slice (some ⟨g6, 0, none⟩) 4 cap6] rfl rfl (World.news_of_block (cs := #[.slice (some ⟨g6, 0, none⟩) 4 cap6]) (by simpa using heap_alloc_new W8 (.cells #[.slice (some ⟨g6, 0, none⟩) 4 cap6] 35))) (by simp [Value.oneCell']) (by omega) (by unfold maxLen; omega) (by omega) (by simp; omega) _ rfl ?_; intro g2 cap2 w2 hown hgrow hat hlt2; have OW := hide hown; have GW := hide hgrow; clear hown hgrow)
                      have hP := hW8.on (below_alloc1 W8 (.cells #[.slice (some ⟨g6, 0, none⟩) 4 cap6] 35))
                      refine ⟨⟨k + 1, _, g2, cap2, by omega, by go_num, rfl, ?_, HS.out, hP.push (d := ((sn : Int), 2, (yn : Int), x3, x4)) (fun i x hx => (hxs i x hx).tk (.alloc _ _)) (by rw [HO.out.1]; exact congrArg (· * 1) HK.out.symm) (by dsimp only; rw [HK.out]; exact OW.out) GW.out (hT8.tk (.alloc _ _)) hmlo8⟩, by simp [intOf]; omega⟩
                      show Hid ((st.2 ++ _).length = k + 1)
                      unfold Hid
                      simp [HK.out]
                    · cases ho : (x.1.1 == (sn : Int)) with
                      | false =>
                        have HOW := hide ho
                        have HS := hide (far_stop HRU.out HX.out (stp_own B1.out HL.out HZ.out HW.out HKY.out rfl ho))
                        clear ho d1 h1
                        go_wp2_with fail
                        refine wp_region_noPanic ?_
                        refine wp_region_held_drew (S := (fun w' => (w'.cell? ⟨D0, 0, none⟩ = some (.int .i64 (sn : Int)) ∧ w'.cell? ⟨D0, 1, none⟩ = some (.int .i64 3) ∧ w'.cell? ⟨D0, 2, none⟩ = some (.int .i64 (yn : Int)) ∧ w'.cell? ⟨D0, 3, none⟩ = some (.int .i64 x3) ∧ w'.cell? ⟨D0, 4, none⟩ = some (.int .i64 x4)) ∧ RS w G base gs cap st D0 ((sn : Int), 3, (yn : Int), x3, x4) mg mc (viewOf st (sn : Int)) w' ∧ (Blk w' p 35 #[.slice (some ⟨wg, 0, none⟩) 4 cc] ∧ TB w' wg x.2))) (by kernel_rfl) (by exact ⟨(hR2.drew).row.five.1, hR2.drew, hBp.drew, hwt.tk (.drew _)⟩) (fun hHeld => ?_)
                        refine take_run 0 (some 91) (v := ?_) rfl rfl (by kernel_rfl) (by kernel_rfl) (by kernel_rfl) (fun _ _ _ h => h) (by rfl) ?_ hHeld ?_
                        rotate_left
                        · ((intro w hSw); (try dsimp only at hSw); go_simp <;> with_reducible rfl)
                        simp only [Act.put, List.setIfInBounds_toArray, List.set_cons_zero, List.set_cons_succ]
                        refine take_run 1 (some 92) (v := ?_) rfl rfl (by kernel_rfl) (by kernel_rfl) (by kernel_rfl) (fun _ _ _ h => h) (by rfl) ?_ hHeld ?_
                        rotate_left
                        · ((intro w hSw); (try dsimp only at hSw); go_simp <;> with_reducible rfl)
                        simp only [Act.put, List.setIfInBounds_toArray, List.set_cons_zero, List.set_cons_succ]
                        refine take_run 2 (some 93) (v := ?_) rfl rfl (by kernel_rfl) (by kernel_rfl) (by kernel_rfl) (fun _ _ _ h => h) (by rfl) ?_ hHeld ?_
                        rotate_left
                        · ((intro w hSw); (try dsimp only at hSw); go_simp <;> with_reducible rfl)
                        simp only [Act.put, List.setIfInBounds_toArray, List.set_cons_zero, List.set_cons_succ]
                        refine take_run 3 (some 94) (v := ?_) rfl rfl (by kernel_rfl) (by kernel_rfl) (by kernel_rfl) (fun _ _ _ h => h) (by rfl) ?_ hHeld ?_
                        rotate_left
                        · ((intro w hSw); (try dsimp only at hSw); go_simp <;> with_reducible rfl)
                        simp only [Act.put, List.setIfInBounds_toArray, List.set_cons_zero, List.set_cons_succ]
                        refine take_run 4 (some 95) (v := ?_) rfl rfl (by kernel_rfl) (by kernel_rfl) (by kernel_rfl) (fun _ _ _ h => h) (by rfl) ?_ hHeld ?_
                        rotate_left
                        · ((intro w hSw); (try dsimp only at hSw); go_simp <;> with_reducible rfl)
                        simp only [Act.put, List.setIfInBounds_toArray, List.set_cons_zero, List.set_cons_succ]
                        refine take_run 5 (some 96) (v := ?_) rfl rfl (by kernel_rfl) (by kernel_rfl) (by kernel_rfl) (fun _ _ _ h => h) (by rfl) ?_ hHeld ?_
                        rotate_left
                        · ((intro w hSw); (try dsimp only at hSw); go_simp <;> with_reducible rfl)
                        simp only [Act.put, List.setIfInBounds_toArray, List.set_cons_zero, List.set_cons_succ]
                        refine take_run 6 (some 97) (v := ?_) rfl rfl (by kernel_rfl) (by kernel_rfl) (by kernel_rfl) (fun _ _ _ h => h) (by rfl) ?_ hHeld ?_
                        rotate_left
                        · ((intro w hSw); (try dsimp only at hSw); go_simp <;> with_reducible rfl)
                        simp only [Act.put, List.setIfInBounds_toArray, List.set_cons_zero, List.set_cons_succ]
                        refine take_one 7 (by kernel_rfl) rfl (fun K hK => ?_)
                        go_simp
                        (have C7 := l6Of_any (some ⟨b, off, none⟩) c st.2 (sn : Int) 3 (yn : Int) x3 x4 _ (by have := HK.out; omega) (by rw [HRU.out.recs]; exact ((hd.on hHeld.2.1.ws.below).up hHeld.2.1.ws.below.size).take _); rw [HK.out] at C7; simp only [HW.out, HKY.out] at C7; refine C7.mono ?_; rintro e w4 ⟨rfl, hb⟩)
                        try go_wp2_with fail
                        refine hK.out _ _ (by exact ⟨(hHeld.2.1.on hb).row.five.1, hHeld.2.1.on hb, hHeld.2.2.1.on hb, hHeld.2.2.2.on hb⟩) (fun hHeld => ?_)
                        clear hK K
                        refine take_run 8 (some 99) (v := ?_) rfl rfl (by kernel_rfl) (by kernel_rfl) (by kernel_rfl) (fun _ _ _ h => h) (by rfl) ?_ hHeld ?_
                        rotate_left
                        · ((intro w hSw); (try dsimp only at hSw); go_simp <;> with_reducible rfl)
                        simp only [Act.put, List.setIfInBounds_toArray, List.set_cons_zero, List.set_cons_succ]
                        refine take_run 9 (some 100) (v := ?_) rfl rfl (by kernel_rfl) (by kernel_rfl) (by kernel_rfl) (fun _ _ _ h => h) (by rfl) ?_ hHeld ?_
                        rotate_left
                        · ((intro w hSw); (try dsimp only at hSw); go_simp <;> with_reducible rfl)
                        simp only [Act.put, List.setIfInBounds_toArray, List.set_cons_zero, List.set_cons_succ]
                        refine take_run 10 (some 101) (v := ?_) rfl rfl (by kernel_rfl) (by kernel_rfl) (by kernel_rfl) (fun _ _ _ h => h) (by rfl) ?_ hHeld ?_
                        rotate_left
                        · ((intro w hSw); (try dsimp only at hSw); go_simp <;> with_reducible rfl)
                        simp only [Act.put, List.setIfInBounds_toArray, List.set_cons_zero, List.set_cons_succ]
                        refine take_run 11 (some 102) (v := ?_) rfl rfl (by kernel_rfl) (by kernel_rfl) (by kernel_rfl) (fun _ _ _ h => h) (by rfl) ?_ hHeld ?_
                        rotate_left
                        · ((intro w hSw); (try dsimp only at hSw); go_simp <;> with_reducible rfl)
                        simp only [Act.put, List.setIfInBounds_toArray, List.set_cons_zero, List.set_cons_succ]
                        refine take_run 12 (some 103) (v := ?_) rfl rfl (by kernel_rfl) (by kernel_rfl) (by kernel_rfl) (fun _ _ _ h => h) (by rfl) ?_ hHeld ?_
                        rotate_left
                        · ((intro w hSw); (try dsimp only at hSw); go_simp <;> with_reducible rfl)
                        simp only [Act.put, List.setIfInBounds_toArray, List.set_cons_zero, List.set_cons_succ]
                        refine take_run 13 (some 104) (v := ?_) rfl rfl (by kernel_rfl) (by kernel_rfl) (by kernel_rfl) (fun _ _ _ h => h) (by rfl) ?_ hHeld ?_
                        rotate_left
                        · ((intro w hSw); (try dsimp only at hSw); go_simp <;> with_reducible rfl)
                        simp only [Act.put, List.setIfInBounds_toArray, List.set_cons_zero, List.set_cons_succ]
                        refine take_run 14 (some 105) (v := ?_) rfl rfl (by kernel_rfl) (by kernel_rfl) (by kernel_rfl) (fun _ _ _ h => h) (by rfl) ?_ hHeld ?_
                        rotate_left
                        · ((intro w hSw); (try dsimp only at hSw); go_simp <;> with_reducible rfl)
                        simp only [Act.put, List.setIfInBounds_toArray, List.set_cons_zero, List.set_cons_succ]
                        refine take_run 15 (some 106) (v := ?_) rfl rfl (by kernel_rfl) (by kernel_rfl) (by kernel_rfl) (fun _ _ _ h => h) (by rfl) ?_ hHeld ?_
                        rotate_left
                        · ((intro w hSw); (try dsimp only at hSw); go_simp <;> with_reducible rfl)
                        simp only [Act.put, List.setIfInBounds_toArray, List.set_cons_zero, List.set_cons_succ]
                        refine take_run 16 (some 107) (v := ?_) rfl rfl (by kernel_rfl) (by kernel_rfl) (by kernel_rfl) (fun _ _ _ h => h) (by rfl) ?_ hHeld ?_
                        rotate_left
                        · ((intro w hSw); (try dsimp only at hSw); go_simp <;> with_reducible rfl)
                        simp only [Act.put, List.setIfInBounds_toArray, List.set_cons_zero, List.set_cons_succ]
                        refine take_run 17 (some 108) (v := ?_) rfl rfl (by kernel_rfl) (by kernel_rfl) (by kernel_rfl) (fun _ _ _ h => h) (by rfl) ?_ hHeld ?_
                        rotate_left
                        · ((intro w hSw); (try dsimp only at hSw); go_simp <;> with_reducible rfl)
                        simp only [Act.put, List.setIfInBounds_toArray, List.set_cons_zero, List.set_cons_succ]
                        refine take_run 18 (some 109) (v := ?_) rfl rfl (by kernel_rfl) (by kernel_rfl) (by kernel_rfl) (fun _ _ _ h => h) (by rfl) ?_ hHeld ?_
                        rotate_left
                        · ((intro w hSw); (try dsimp only at hSw); go_simp <;> with_reducible rfl)
                        simp only [Act.put, List.setIfInBounds_toArray, List.set_cons_zero, List.set_cons_succ]
                        refine take_one 19 (by kernel_rfl) rfl (fun K hK => ?_)
                        go_simp
                        (have C7 := l6Own_any (some ⟨b, off, none⟩) c st.2 (sn : Int) 3 (yn : Int) x3 x4 _ (by have := HK.out; omega) (by rw [HRU.out.recs]; exact ((hd.on hHeld.2.1.ws.below).up hHeld.2.1.ws.below.size).take _); rw [HK.out] at C7; simp only [HW.out, HOW.out] at C7; refine C7.mono ?_; rintro e w4 ⟨rfl, hb⟩)
                        try go_wp2_with fail
                        refine hK.out _ _ (by exact ⟨(hHeld.2.1.on hb).row.five.1, hHeld.2.1.on hb, hHeld.2.2.1.on hb, hHeld.2.2.2.on hb⟩) (fun hHeld => ?_)
                        clear hK K
                        refine take_run 20 (some 111) (v := ?_) rfl rfl (by kernel_rfl) (by kernel_rfl) (by kernel_rfl) (fun _ _ _ h => h) (by rfl) ?_ hHeld ?_
                        rotate_left
                        · ((intro w hSw); (try dsimp only at hSw); go_simp <;> with_reducible rfl)
                        simp only [Act.put, List.setIfInBounds_toArray, List.set_cons_zero, List.set_cons_succ]
                        refine take_run 21 (some 112) (v := ?_) rfl rfl (by kernel_rfl) (by kernel_rfl) (by kernel_rfl) (fun _ _ _ h => h) (by rfl) ?_ hHeld ?_
                        rotate_left
                        · ((intro w hSw); (try dsimp only at hSw); go_simp <;> with_reducible rfl)
                        simp only [Act.put, List.setIfInBounds_toArray, List.set_cons_zero, List.set_cons_succ]
                        refine take_run 22 (some 113) (v := ?_) rfl rfl (by kernel_rfl) (by kernel_rfl) (by kernel_rfl) (fun _ _ _ h => h) (by rfl) ?_ hHeld ?_
                        rotate_left
                        · ((intro w hSw); (try dsimp only at hSw); go_simp <;> with_reducible rfl)
                        simp only [Act.put, List.setIfInBounds_toArray, List.set_cons_zero, List.set_cons_succ]
                        refine wpAnyH_done (by kernel_rfl) ?_ _
                        refine NoPanic.normal ?_
                        go_wp2
                        refine bodyPost_ret (v := .tuple #[.slice (some ⟨gs, 0, none⟩) k cap, .int .i64 (k : Int)]) (by simp [results, Try.results68, go_sem]) rfl ?_
                        exact hHeld.2.1.ws.walked HK.out HRU.out HS.out
                      | true =>
                        have HOW := hide ho
                        have HS := hide (runs_step HRU.out HX.out (stp_read B1.out HL.out HZ.out HW.out HKY.out (by simp [bne, ho])))
                        simp only [Int.toNat_natCast] at HS
                        clear ho d1 h1
                        go_wp2_with fail
                        refine wp_region_noPanic ?_
                        refine wp_region_held_drew (S := (fun w' => (w'.cell? ⟨D0, 0, none⟩ = some (.int .i64 (sn : Int)) ∧ w'.cell? ⟨D0, 1, none⟩ = some (.int .i64 3) ∧ w'.cell? ⟨D0, 2, none⟩ = some (.int .i64 (yn : Int)) ∧ w'.cell? ⟨D0, 3, none⟩ = some (.int .i64 x3) ∧ w'.cell? ⟨D0, 4, none⟩ = some (.int .i64 x4)) ∧ RS w G base gs cap st D0 ((sn : Int), 3, (yn : Int), x3, x4) mg mc (viewOf st (sn : Int)) w' ∧ (Blk w' p 35 #[.slice (some ⟨wg, 0, none⟩) 4 cc] ∧ TB w' wg x.2))) (by kernel_rfl) (by exact ⟨(hR2.drew).row.five.1, hR2.drew, hBp.drew, hwt.tk (.drew _)⟩) (fun hHeld => ?_)
                        refine take_run 0 (some 91) (v := ?_) rfl rfl (by kernel_rfl) (by kernel_rfl) (by kernel_rfl) (fun _ _ _ h => h) (by rfl) ?_ hHeld ?_
                        rotate_left
                        · ((intro w hSw); (try dsimp only at hSw); go_simp <;> with_reducible rfl)
                        simp only [Act.put, List.setIfInBounds_toArray, List.set_cons_zero, List.set_cons_succ]
                        refine take_run 1 (some 92) (v := ?_) rfl rfl (by kernel_rfl) (by kernel_rfl) (by kernel_rfl) (fun _ _ _ h => h) (by rfl) ?_ hHeld ?_
                        rotate_left
                        · ((intro w hSw); (try dsimp only at hSw); go_simp <;> with_reducible rfl)
                        simp only [Act.put, List.setIfInBounds_toArray, List.set_cons_zero, List.set_cons_succ]
                        refine take_run 2 (some 93) (v := ?_) rfl rfl (by kernel_rfl) (by kernel_rfl) (by kernel_rfl) (fun _ _ _ h => h) (by rfl) ?_ hHeld ?_
                        rotate_left
                        · ((intro w hSw); (try dsimp only at hSw); go_simp <;> with_reducible rfl)
                        simp only [Act.put, List.setIfInBounds_toArray, List.set_cons_zero, List.set_cons_succ]
                        refine take_run 3 (some 94) (v := ?_) rfl rfl (by kernel_rfl) (by kernel_rfl) (by kernel_rfl) (fun _ _ _ h => h) (by rfl) ?_ hHeld ?_
                        rotate_left
                        · ((intro w hSw); (try dsimp only at hSw); go_simp <;> with_reducible rfl)
                        simp only [Act.put, List.setIfInBounds_toArray, List.set_cons_zero, List.set_cons_succ]
                        refine take_run 4 (some 95) (v := ?_) rfl rfl (by kernel_rfl) (by kernel_rfl) (by kernel_rfl) (fun _ _ _ h => h) (by rfl) ?_ hHeld ?_
                        rotate_left
                        · ((intro w hSw); (try dsimp only at hSw); go_simp <;> with_reducible rfl)
                        simp only [Act.put, List.setIfInBounds_toArray, List.set_cons_zero, List.set_cons_succ]
                        refine take_run 5 (some 96) (v := ?_) rfl rfl (by kernel_rfl) (by kernel_rfl) (by kernel_rfl) (fun _ _ _ h => h) (by rfl) ?_ hHeld ?_
                        rotate_left
                        · ((intro w hSw); (try dsimp only at hSw); go_simp <;> with_reducible rfl)
                        simp only [Act.put, List.setIfInBounds_toArray, List.set_cons_zero, List.set_cons_succ]
                        refine take_run 6 (some 97) (v := ?_) rfl rfl (by kernel_rfl) (by kernel_rfl) (by kernel_rfl) (fun _ _ _ h => h) (by rfl) ?_ hHeld ?_
                        rotate_left
                        · ((intro w hSw); (try dsimp only at hSw); go_simp <;> with_reducible rfl)
                        simp only [Act.put, List.setIfInBounds_toArray, List.set_cons_zero, List.set_cons_succ]
                        refine take_one 7 (by kernel_rfl) rfl (fun K hK => ?_)
                        go_simp
                        (have C7 := l6Of_any (some ⟨b, off, none⟩) c st.2 (sn : Int) 3 (yn : Int) x3 x4 _ (by have := HK.out; omega) (by rw [HRU.out.recs]; exact ((hd.on hHeld.2.1.ws.below).up hHeld.2.1.ws.below.size).take _); rw [HK.out] at C7; simp only [HW.out, HKY.out] at C7; refine C7.mono ?_; rintro e w4 ⟨rfl, hb⟩)
                        try go_wp2_with fail
                        refine hK.out _ _ (by exact ⟨(hHeld.2.1.on hb).row.five.1, hHeld.2.1.on hb, hHeld.2.2.1.on hb, hHeld.2.2.2.on hb⟩) (fun hHeld => ?_)
                        clear hK K
                        refine take_run 8 (some 99) (v := ?_) rfl rfl (by kernel_rfl) (by kernel_rfl) (by kernel_rfl) (fun _ _ _ h => h) (by rfl) ?_ hHeld ?_
                        rotate_left
                        · ((intro w hSw); (try dsimp only at hSw); go_simp <;> with_reducible rfl)
                        simp only [Act.put, List.setIfInBounds_toArray, List.set_cons_zero, List.set_cons_succ]
                        refine take_run 9 (some 100) (v := ?_) rfl rfl (by kernel_rfl) (by kernel_rfl) (by kernel_rfl) (fun _ _ _ h => h) (by rfl) ?_ hHeld ?_
                        rotate_left
                        · ((intro w hSw); (try dsimp only at hSw); go_simp <;> with_reducible rfl)
                        simp only [Act.put, List.setIfInBounds_toArray, List.set_cons_zero, List.set_cons_succ]
                        refine take_run 10 (some 101) (v := ?_) rfl rfl (by kernel_rfl) (by kernel_rfl) (by kernel_rfl) (fun _ _ _ h => h) (by rfl) ?_ hHeld ?_
                        rotate_left
                        · ((intro w hSw); (try dsimp only at hSw); go_simp <;> with_reducible rfl)
                        simp only [Act.put, List.setIfInBounds_toArray, List.set_cons_zero, List.set_cons_succ]
                        refine take_run 11 (some 102) (v := ?_) rfl rfl (by kernel_rfl) (by kernel_rfl) (by kernel_rfl) (fun _ _ _ h => h) (by rfl) ?_ hHeld ?_
                        rotate_left
                        · ((intro w hSw); (try dsimp only at hSw); go_simp <;> with_reducible rfl)
                        simp only [Act.put, List.setIfInBounds_toArray, List.set_cons_zero, List.set_cons_succ]
                        refine take_run 12 (some 103) (v := ?_) rfl rfl (by kernel_rfl) (by kernel_rfl) (by kernel_rfl) (fun _ _ _ h => h) (by rfl) ?_ hHeld ?_
                        rotate_left
                        · ((intro w hSw); (try dsimp only at hSw); go_simp <;> with_reducible rfl)
                        simp only [Act.put, List.setIfInBounds_toArray, List.set_cons_zero, List.set_cons_succ]
                        refine take_run 13 (some 104) (v := ?_) rfl rfl (by kernel_rfl) (by kernel_rfl) (by kernel_rfl) (fun _ _ _ h => h) (by rfl) ?_ hHeld ?_
                        rotate_left
                        · ((intro w hSw); (try dsimp only at hSw); go_simp <;> with_reducible rfl)
                        simp only [Act.put, List.setIfInBounds_toArray, List.set_cons_zero, List.set_cons_succ]
                        refine take_run 14 (some 105) (v := ?_) rfl rfl (by kernel_rfl) (by kernel_rfl) (by kernel_rfl) (fun _ _ _ h => h) (by rfl) ?_ hHeld ?_
                        rotate_left
                        · ((intro w hSw); (try dsimp only at hSw); go_simp <;> with_reducible rfl)
                        simp only [Act.put, List.setIfInBounds_toArray, List.set_cons_zero, List.set_cons_succ]
                        refine take_run 15 (some 106) (v := ?_) rfl rfl (by kernel_rfl) (by kernel_rfl) (by kernel_rfl) (fun _ _ _ h => h) (by rfl) ?_ hHeld ?_
                        rotate_left
                        · ((intro w hSw); (try dsimp only at hSw); go_simp <;> with_reducible rfl)
                        simp only [Act.put, List.setIfInBounds_toArray, List.set_cons_zero, List.set_cons_succ]
                        refine take_run 16 (some 107) (v := ?_) rfl rfl (by kernel_rfl) (by kernel_rfl) (by kernel_rfl) (fun _ _ _ h => h) (by rfl) ?_ hHeld ?_
                        rotate_left
                        · ((intro w hSw); (try dsimp only at hSw); go_simp <;> with_reducible rfl)
                        simp only [Act.put, List.setIfInBounds_toArray, List.set_cons_zero, List.set_cons_succ]
                        refine take_run 17 (some 108) (v := ?_) rfl rfl (by kernel_rfl) (by kernel_rfl) (by kernel_rfl) (fun _ _ _ h => h) (by rfl) ?_ hHeld ?_
                        rotate_left
                        · ((intro w hSw); (try dsimp only at hSw); go_simp <;> with_reducible rfl)
                        simp only [Act.put, List.setIfInBounds_toArray, List.set_cons_zero, List.set_cons_succ]
                        refine take_run 18 (some 109) (v := ?_) rfl rfl (by kernel_rfl) (by kernel_rfl) (by kernel_rfl) (fun _ _ _ h => h) (by rfl) ?_ hHeld ?_
                        rotate_left
                        · ((intro w hSw); (try dsimp only at hSw); go_simp <;> with_reducible rfl)
                        simp only [Act.put, List.setIfInBounds_toArray, List.set_cons_zero, List.set_cons_succ]
                        refine take_one 19 (by kernel_rfl) rfl (fun K hK => ?_)
                        go_simp
                        (have C7 := l6Own_any (some ⟨b, off, none⟩) c st.2 (sn : Int) 3 (yn : Int) x3 x4 _ (by have := HK.out; omega) (by rw [HRU.out.recs]; exact ((hd.on hHeld.2.1.ws.below).up hHeld.2.1.ws.below.size).take _); rw [HK.out] at C7; simp only [HW.out, HOW.out] at C7; refine C7.mono ?_; rintro e w4 ⟨rfl, hb⟩)
                        try go_wp2_with fail
                        refine hK.out _ _ (by exact ⟨(hHeld.2.1.on hb).row.five.1, hHeld.2.1.on hb, hHeld.2.2.1.on hb, hHeld.2.2.2.on hb⟩) (fun hHeld => ?_)
                        clear hK K
                        refine take_run 20 (some 111) (v := ?_) rfl rfl (by kernel_rfl) (by kernel_rfl) (by kernel_rfl) (fun _ _ _ h => h) (by rfl) ?_ hHeld ?_
                        rotate_left
                        · ((intro w hSw); (try dsimp only at hSw); go_simp <;> with_reducible rfl)
                        simp only [Act.put, List.setIfInBounds_toArray, List.set_cons_zero, List.set_cons_succ]
                        refine take_run 21 (some 112) (v := ?_) rfl rfl (by kernel_rfl) (by kernel_rfl) (by kernel_rfl) (fun _ _ _ h => h) (by rfl) ?_ hHeld ?_
                        rotate_left
                        · ((intro w hSw); (try dsimp only at hSw); go_simp <;> with_reducible rfl)
                        simp only [Act.put, List.setIfInBounds_toArray, List.set_cons_zero, List.set_cons_succ]
                        refine take_run 22 (some 113) (v := ?_) rfl rfl (by kernel_rfl) (by kernel_rfl) (by kernel_rfl) (fun _ _ _ h => h) (by rfl) ?_ hHeld ?_
                        rotate_left
                        · ((intro w hSw); (try dsimp only at hSw); go_simp <;> with_reducible rfl)
                        simp only [Act.put, List.setIfInBounds_toArray, List.set_cons_zero, List.set_cons_succ]
                        refine wpAnyH_done (by kernel_rfl) ?_ _
                        refine NoPanic.normal ?_
                        have hR3 := hHeld.2.1
                        have hP3 := hHeld.2.2.1
                        have hT3 := hHeld.2.2.2
                        clear hHeld hR2 kr km kp hBp hwt
                        have km := hR3.mine.one
                        have hl1 := HOK.out
                        have HV4 := hide (viewOf_len HOK.out (sn : Int))
                        have HX4 := hide (wrote_len (st := st) HOK.out HW.out)
                        clear hl1
                        go_upto_region 23 with (fail)
                        refine wp_region_noPanic ?_
                        refine wp_region_held_drew (S := (fun w' => (w'.cell? ⟨D0, 2, none⟩ = some (.int .i64 (yn : Int)) ∧ w'.cell? ⟨D0, 3, none⟩ = some (.int .i64 x3) ∧ w'.cell? ⟨D0, 4, none⟩ = some (.int .i64 x4) ∧ w'.cell? ⟨p, 0, none⟩ = some (.slice (some ⟨wg, 0, none⟩) 4 cc)) ∧ (∃ mg' mc' mv', RS w G base gs cap st D0 ((sn : Int), 3, (yn : Int), x3, x4) mg' mc' mv' w') ∧ (Blk w' p 35 #[.slice (some ⟨wg, 0, none⟩) 4 cc] ∧ TB w' wg x.2 ∧ TB w' mg (viewOf st (sn : Int))))) (by kernel_rfl) (by exact ⟨⟨(hR3.drew).row.at 2, (hR3.drew).row.at 3, (hR3.drew).row.at 4, (hP3.drew).at 0⟩, ⟨_, _, _, hR3.drew⟩, hP3.drew, hT3.tk (.drew _), hR3.tb.tk (.drew _)⟩) (fun hHeld => ?_)
                        refine take_run 1 (some 117) (v := ?_) rfl rfl (by kernel_rfl) (by kernel_rfl) (by kernel_rfl) (fun _ _ _ h => h) (by rfl) ?_ hHeld ?_
                        rotate_left
                        · ((intro w hSw); (try dsimp only at hSw); go_simp <;> with_reducible rfl)
                        simp only [Act.put, List.setIfInBounds_toArray, List.set_cons_zero, List.set_cons_succ]
                        refine take_run 3 (some 119) (v := ?_) rfl rfl (by kernel_rfl) (by kernel_rfl) (by kernel_rfl) (fun _ _ _ h => h) (by rfl) ?_ hHeld ?_
                        rotate_left
                        · ((intro w hSw); (try dsimp only at hSw); go_simp <;> with_reducible rfl)
                        simp only [Act.put, List.setIfInBounds_toArray, List.set_cons_zero, List.set_cons_succ]
                        refine take_run 4 (some 120) (v := ?_) rfl rfl (by kernel_rfl) (by kernel_rfl) (by kernel_rfl) (fun _ _ _ h => h) (by rfl) ?_ hHeld ?_
                        rotate_left
                        · ((intro w hSw); (try dsimp only at hSw); go_simp <;> with_reducible rfl)
                        simp only [Act.put, List.setIfInBounds_toArray, List.set_cons_zero, List.set_cons_succ]
                        refine take_run 5 (some 121) (v := ?_) rfl rfl (by kernel_rfl) (by kernel_rfl) (by kernel_rfl) (fun _ _ _ h => h) (by rfl) ?_ hHeld ?_
                        rotate_left
                        · ((intro w hSw); (try dsimp only at hSw); go_simp <;> with_reducible rfl)
                        simp only [Act.put, List.setIfInBounds_toArray, List.set_cons_zero, List.set_cons_succ]
                        refine take_run 6 (some 122) (v := ?_) rfl rfl (by kernel_rfl) (by kernel_rfl) (by kernel_rfl) (fun _ _ _ h => h) (by rfl) ?_ hHeld ?_
                        rotate_left
                        · ((intro w hSw); (try dsimp only at hSw); go_simp <;> with_reducible rfl)
                        simp only [Act.put, List.setIfInBounds_toArray, List.set_cons_zero, List.set_cons_succ]
                        refine take_one 0 (by kernel_rfl) rfl (fun K hK => ?_)
                        go_simp
                        refine hK.out _ _ (by exact hHeld) (fun hHeld => ?_)
                        clear hK K
                        refine take_one 2 (by kernel_rfl) rfl (fun K hK => ?_)
                        go_simp
                        (refine (l1Join_any (some ⟨mg, 0, none⟩) (some ⟨wg, 0, none⟩) mc cc (viewOf st (sn : Int)) x.2 _ HV4.out HX4.out hHeld.2.2.2.2.tg hHeld.2.2.2.1.tg).mono ?_; rintro e w5 ⟨g5, cap5, T5, cur5, rfl, hg5, hB5, hs5, hc5, hb⟩; have HC5 := hide hc5; clear hc5; obtain ⟨_, _, _, hr0⟩ := hHeld.2.1)
                        try go_wp2_with fail
                        refine hK.out _ _ (by exact ⟨⟨(hr0.on hb).row.at 2, (hr0.on hb).row.at 3, (hr0.on hb).row.at 4, (hHeld.2.2.1.on hb).at 0⟩, ⟨_, _, _, hr0.on hb⟩, hHeld.2.2.1.on hb, hHeld.2.2.2.1.on hb, hHeld.2.2.2.2.on hb⟩) (fun hHeld => ?_)
                        clear hK K
                        refine take_one 7 (by kernel_rfl) rfl (fun K hK => ?_)
                        go_simp
                        (refine (l1With_any (some ⟨g5, 0, none⟩) cap5 yn (mxL (viewOf st (sn : Int)) x.2) x3 x4 _ (by unfold mxL; simp [HV4.out, HX4.out]) hyn (Tg.of hB5 hB5.inside HC5.out)).mono ?_; rintro e w6 ⟨g6, cap6, rfl, hg6, htb6, hb⟩; obtain ⟨_, _, _, hr0⟩ := hHeld.2.1; have hR6 := (hr0.on hb).turn (nc := cap6) htb6 (by have := hr0.ws.below.size; omega); have hM6 := (hr0.on hb).mine; have km6 := hM6.one)
                        try go_wp2_with fail
                        refine hK.out _ _ (by exact ⟨⟨(hr0.on hb).row.at 2, (hr0.on hb).row.at 3, (hr0.on hb).row.at 4, (hHeld.2.2.1.on hb).at 0⟩, ⟨_, _, _, hr0.on hb⟩, hHeld.2.2.1.on hb, hHeld.2.2.2.1.on hb, hHeld.2.2.2.2.on hb⟩) (fun hHeld => ?_)
                        clear hK K
                        refine take_one 8 (by kernel_rfl) rfl (fun K hK => ?_)
                        go_simp
                        refine hK.out _ _ (by exact ⟨⟨(hR6).row.at 2, (hR6).row.at 3, (hR6).row.at 4, (hHeld.2.2.1.aside (p := ⟨D0 + 1, 0, none⟩) (by simp only; omega) _).at 0⟩, ⟨_, _, _, hR6⟩, hHeld.2.2.1.aside (p := ⟨D0 + 1, 0, none⟩) (by simp only; omega) _, hHeld.2.2.2.1.tk (.set (p := ⟨D0 + 1, 0, none⟩) hM6 past_ne_tag _), hHeld.2.2.2.2.tk (.set (p := ⟨D0 + 1, 0, none⟩) hM6 past_ne_tag _)⟩) (fun hHeld => ?_)
                        clear hK K
                        refine wpAnyH_done (by kernel_rfl) ?_ _
                        refine NoPanic.normal ?_
                        clear hHeld hR3 hP3 hT3 km hB5 HC5 hM6 km6 htb6 hr0
                        generalize w6.setCell ⟨D0 + 1, 0, none⟩ (.slice (some ⟨g6, 0, none⟩) 4 cap6) = W7 at hR6 ⊢
                        skip
                        have kr := hR6.row.five
                        have km := hR6.mine.one
                        have lz := hR6.ws.loose sn
                        obtain ⟨gq, cq, hcq, -⟩ := hR6.ws.see (view_at HOK.out hsn)
                        have hGlt : G < W7.heap.size := by have := hR6.ws.hi; have := hR6.ws.room; omega
                        have hGD : G ≠ D0 + 1 := by have := hR6.ws.hi; have := hR6.lo; omega
                        have hW8 := hR6.ws.put (mc := cap6) hsn hR6.tb hR6.mlo
                        have hmlo8 := hR6.mlo
                        have hM8 := hR6.mine.aside (p := ⟨G, sn, none⟩) (fun e => hGD e.symm) (.slice (some ⟨g6, 0, none⟩) 4 cap6)
                        have hT8 : TB (W7.setCell ⟨G, sn, none⟩ (.slice (some ⟨g6, 0, none⟩) 4 cap6)) g6 (withT (mxL (viewOf st (sn : Int)) x.2) (yn : Int) x3 x4) := by obtain ⟨c1, b1, _⟩ := hR6.ws.sees; exact hR6.tb.tk (.set (p := ⟨G, sn, none⟩) b1 past_ne_tag _)
                        have HW8 := hide hW8
                        have HM8 := hide hM8
                        have HT8 := hide hT8
                        clear hW8 hM8 hT8
                        go_upto_region 25 with (fail)
                        have hW8 := HW8.out
                        have hM8 := HM8.out
                        have hT8 := HT8.out
                        clear HW8 HM8 HT8 kr km lz hcq
                        generalize W7.setCell ⟨G, sn, none⟩ (.slice (some ⟨g6, 0, none⟩) 4 cap6) = W8 at hW8 hM8 hT8 ⊢
                        have km := hM8.one
                        obtain ⟨xs, ho, hxs⟩ := hW8.owns
                        dsimp only at ho hxs
                        rw [HK.out] at ho
                        have HO := hide ho
                        have hzr := hW8.room
                        clear ho
                        go_wp2_with (at_builtin; refine wpList_append_lies _ rfl (.tmp 129) (.tmp 131) 64 rfl base 35 i0 _ 1 24 Try.underlying64 I0.out I1.out I2.out I3.out rfl (by omega) (.slice (some ⟨gs, 0, none⟩) k cap) k _ rfl (HO.out.alloc _) ⟨W8.heap.size, 0, none⟩ 1 1 [.slice (some ⟨g6, 0, none⟩) 4 cap6] rfl rfl (World.news_of_block (cs := #[.slice (some ⟨g6, 0, none⟩) 4 cap6]) (by simpa using heap_alloc_new W8 (.cells #[.slice (some ⟨g6, 0, none⟩) 4 cap6] 35))) (by simp [Value.oneCell']) (by omega) (by unfold maxLen; omega) (by omega) (by simp; omega) _ rfl ?_; intro g2 cap2 w2 hown hgrow hat hlt2; have OW := hide hown; have GW := hide hgrow; clear hown hgrow)
                        have hP := hW8.on (below_alloc1 W8 (.cells #[.slice (some ⟨g6, 0, none⟩) 4 cap6] 35))
                        refine ⟨⟨k + 1, _, g2, cap2, by omega, by go_num, rfl, ?_, HS.out, hP.push (d := ((sn : Int), 3, (yn : Int), x3, x4)) (fun i x hx => (hxs i x hx).tk (.alloc _ _)) (by rw [HO.out.1]; exact congrArg (· * 1) HK.out.symm) (by dsimp only; rw [HK.out]; exact OW.out) GW.out (hT8.tk (.alloc _ _)) hmlo8⟩, by simp [intOf]; omega⟩
                        show Hid ((st.2 ++ _).length = k + 1)
                        unfold Hid
                        simp [HK.out]
              · have hx3 : x3 = 0 := by
                  have := okB_i f6
                  omega
                have hx4 : x4 = 0 := by
                  have := okB_i f6
                  omega
                subst hx3 hx4
                have HS0 := runs_step HRU.out HX.out (stp_zero B1.out HL.out rfl)
                have HS : Hid (Runs (ds.take (k + 1)) (st.1.set sn (viewOf st (sn : Int)), st.2 ++ [(((sn : Int), x1, (yn : Int), 0, 0), viewOf st (sn : Int))])) := by unfold Hid; rw [view_same HOK.out hsn]; exact HS0
                clear HS0
                clear ht0
                clear kr km
                have kr := hR1.row.five
                have km := hR1.mine.one
                have lz := hR1.ws.loose sn
                obtain ⟨gq, cq, hcq, -⟩ := hR1.ws.see (view_at HOK.out hsn)
                have hGlt : G < w3.heap.size := by have := hR1.ws.hi; have := hR1.ws.room; omega
                have hGD : G ≠ D0 + 1 := by have := hR1.ws.hi; have := hR1.lo; omega
                have hW8 := hR1.ws.put (mc := mc) hsn hR1.tb hR1.mlo
                have hmlo8 := hR1.mlo
                have hM8 := hR1.mine.aside (p := ⟨G, sn, none⟩) (fun e => hGD e.symm) (.slice (some ⟨mg, 0, none⟩) 4 mc)
                have hT8 : TB (w3.setCell ⟨G, sn, none⟩ (.slice (some ⟨mg, 0, none⟩) 4 mc)) mg (viewOf st (sn : Int)) := by obtain ⟨c1, b1, _⟩ := hR1.ws.sees; exact hR1.tb.tk (.set (p := ⟨G, sn, none⟩) b1 past_ne_tag _)
                have HW8 := hide hW8
                have HM8 := hide hM8
                have HT8 := hide hT8
                clear hW8 hM8 hT8
                go_upto_region 25 with (fail)
                have hW8 := HW8.out
                have hM8 := HM8.out
                have hT8 := HT8.out
                clear HW8 HM8 HT8 kr km lz hcq
                generalize w3.setCell ⟨G, sn, none⟩ (.slice (some ⟨mg, 0, none⟩) 4 mc) = W8 at hW8 hM8 hT8 ⊢
                have km := hM8.one
                obtain ⟨xs, ho, hxs⟩ := hW8.owns
                dsimp only at ho hxs
                rw [HK.out] at ho
                have HO := hide ho
                have hzr := hW8.room
                clear ho
                go_wp2_with (at_builtin; refine wpList_append_lies _ rfl (.tmp 129) (.tmp 131) 64 rfl base 35 i0 _ 1 24 Try.underlying64 I0.out I1.out I2.out I3.out rfl (by omega) (.slice (some ⟨gs, 0, none⟩) k cap) k _ rfl (HO.out.alloc _) ⟨W8.heap.size, 0, none⟩ 1 1 [.slice (some ⟨mg, 0, none⟩) 4 mc] rfl rfl (World.news_of_block (cs := #[.slice (some ⟨mg, 0, none⟩) 4 mc]) (by simpa using heap_alloc_new W8 (.cells #[.slice (some ⟨mg, 0, none⟩) 4 mc] 35))) (by simp [Value.oneCell']) (by omega) (by unfold maxLen; omega) (by omega) (by simp; omega) _ rfl ?_; intro g2 cap2 w2 hown hgrow hat hlt2; have OW := hide hown; have GW := hide hgrow; clear hown hgrow)
                have hP := hW8.on (below_alloc1 W8 (.cells #[.slice (some ⟨mg, 0, none⟩) 4 mc] 35))
                refine ⟨⟨k + 1, _, g2, cap2, by omega, by go_num, rfl, ?_, HS.out, hP.push (d := ((sn : Int), x1, (yn : Int), 0, 0)) (fun i x hx => (hxs i x hx).tk (.alloc _ _)) (by rw [HO.out.1]; exact congrArg (· * 1) HK.out.symm) (by dsimp only; rw [HK.out]; exact OW.out) GW.out (hT8.tk (.alloc _ _)) hmlo8⟩, by simp [intOf]; omega⟩
                show Hid ((st.2 ++ _).length = k + 1)
                unfold Hid
                simp [HK.out]
      · have hkn : k = n := by omega
        subst hkn
        clear hlt
        go_wp2
        refine bodyPost_ret (v := .tuple #[.slice (some ⟨gs, 0, none⟩) k cap, .int .i64 (k : Int)]) (by simp [results, Try.results68, go_sem]) rfl ?_
        have hall : Runs ds st := by
          have := HRU.out
          rwa [← HN.out, List.take_length] at this
        exact hW.walked HK.out HRU.out ((far_all hall).trans HN.out)
end Go.Proofs.Ytjljaobmeaocjaa

