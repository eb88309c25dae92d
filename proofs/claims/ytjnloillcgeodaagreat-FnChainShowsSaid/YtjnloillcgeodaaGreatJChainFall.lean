/- Contract of slices.Delete at nodes: one node is taken out of a row of the call's own, in place. Condition: at most four nodes. -/
import Derived.Test.YtjnloillcgeodaaGreatJFallPure
import Derived.Deep.RegionLaw
import Derived.Lib.SliceRun
import Derived.Test.YtjnloillcgeodaaGreatJOwed
import Derived.Test.YtjnloillcgeodaaGreatJChainFall2
import Derived.Test.YtjnloillcgeodaaGreatJChainPass4
namespace Go.Proofs.YtjnloillcgeodaaGreat
open Go.RowKit Go.Joins
attribute [local go_sem ↓] Go.wp_at_zero Go.wp_at_succ

/-- A run of stores into one block. -/
theorem Blk.setCells {g : Nat} {T : TypeId} : ∀ (vs : List Value) (o : Nat) {w : World} {cs : Array Value}, Blk w g T cs → o + vs.length ≤ cs.size → ∃ cs', Blk (w.setCells g o vs) g T cs' ∧ cs'.size = cs.size ∧ cs'.toList = cs.toList.take o ++ vs ++ cs.toList.drop (o + vs.length)
  | [], o, w, cs, h, hs => ⟨cs, h, rfl, by simp⟩
  | v :: r, o, w, cs, h, hs => by
    simp only [List.length_cons] at hs
    obtain ⟨cs', h1, h2, h3⟩ := Blk.setCells r (o + 1) (h.put o v) (by simp; omega)
    refine ⟨cs', h1, by simpa using h2, ?_⟩
    rw [h3]
    have ho : o < cs.toList.length := by simp; omega
    rw [Array.toList_setIfInBounds, List.drop_set_of_lt (by omega)]
    have e : (cs.toList.set o v).take (o + 1) = cs.toList.take o ++ [v] := by
      rw [List.take_add_one, List.getElem?_set_self ho, List.take_set_of_le (Nat.le_refl _)]
      rfl
    rw [e, show o + 1 + r.length = o + (v :: r).length by simp; omega]
    simp
theorem turn_setCells {g : Nat} : ∀ (vs : List Value) (o : Nat) (w : World), Turn (fun y => y = g) w (w.setCells g o vs)
  | [], _, w => Turn.refl _ w
  | v :: r, o, w => ((Turn.refl (fun y => y = g) w).set (p := ⟨g, o, none⟩) rfl v).trans (turn_setCells r (o + 1) _)
theorem clear_nd (ty : TypeId) (W : World) (G o c : Nat) (cs : Array Value) (h : Blk W G 37 cs) (ho : o + 2 ≤ cs.size) :
    (Builtin.clear_ #[23] ty #[.slice (some ⟨G, o, none⟩) 1 c]).run Tryz.prog W = .ok (.tuple #[]) (W.setCells G o [.slice none 0 0, .slice none 0 0]) := by
  have hzc : (Builtin.zeroCells (Value.agg #[.slice none 0 0, .slice none 0 0]).cells 1).toList = [.slice none 0 0, .slice none 0 0] := by first | kernel_rfl | (simp [Builtin.zeroCells, Value.cells]; decide)
  have hst := run_storeCells_cells (P := Tryz.prog) G o [.slice none 0 0, .slice none 0 0] 0 W (fun j hj => by
      rw [h.at]
      simp only [List.length_cons, List.length_nil] at hj
      rw [Array.getElem?_eq_getElem (by omega)]
      rfl) (fun j _ => h.loose _) (by intro v hv; simp at hv; rw [hv]; rfl)
  simp only [Nat.add_zero] at hst
  simp [Builtin.clear_, run_underlying Tryz.underlying23, hzc, hst]
theorem erase_get {ns : List Nd} {k i : Nat} {x : Nd} (h : (ns.eraseIdx k)[i]? = some x) : ns[if i < k then i else i + 1]? = some x := by
  rw [List.getElem?_eraseIdx] at h
  split at h
  · rename_i q
    rw [if_pos q]
    exact h
  · rename_i q
    rw [if_neg q]
    exact h
/-- A row of nodes, one of them taken out in place. -/
theorem GRow.cut {base : Nat} {wr w2 : World} {G c k : Nat} {us : List Nd} {cr : Array Value} (h : GRow base wr (.slice (some ⟨G, 0, none⟩) us.length c) us) (ht : Turn (fun y => y = G) wr w2) (hk : k < us.length)
    (hB : Blk w2 G 37 cr) (hs : cr.size = c * 2) (htk : cr.toList.take ((us.length - 1) * 2) = flatN (us.take k) ++ flatN (us.drop (k + 1))) :
    GRow base w2 (.slice (some ⟨G, 0, none⟩) (us.eraseIdx k).length c) (us.eraseIdx k) := by
  obtain ⟨cs0, hb0, hlo, _⟩ := h.typed G rfl
  have hcap := h.caps.1
  have hmax : c ≤ maxLen := by
    rcases h.row.2 with ⟨q, _⟩ | ⟨g', cap, cr', q, _, _, _, h4, _⟩
    · cases q
    · injection q with _ _ q
      rw [q]
      exact h4
  have keep : ∀ {A : Option Addr} {vs : List V}, ResS wr base wr.heap.size A vs → ResS w2 base w2.heap.size A vs := fun {A vs} q => (q.turnF ht (fun y hf hp => by
    obtain ⟨T, cs, b1, b2, _⟩ := q.typed hf
    subst hp
    exact b2 (blk_one b1 hb0))).wide ht.size
  have hl := erase_len hk
  refine ⟨⟨by rw [flatN_len], .inr ⟨G, c, cr, rfl, hlo, hB, by omega, hmax, hs, ?_⟩⟩, fun i y hi => keep (h.store _ y (erase_get hi)), fun i y hi => keep (h.wait _ y (erase_get hi)), fun i y hi => h.two _ y (erase_get hi), fun i j y y' hne hi hj => h.apart _ _ y y' (fun e => hne ?_) (erase_get hi) (erase_get hj), Nat.le_trans h.lo ht.size, fun i y hi => (h.own _ y (erase_get hi)).turnedT ht (fun y e => by subst e; exact ⟨_, cs0, hb0, node_ne_ver, node_ne_tag⟩)⟩
  · rw [hl, htk, List.eraseIdx_eq_take_drop_succ, flatN_append]
  · revert e
    split <;> split <;> omega
set_option maxRecDepth 100000 in
set_option maxHeartbeats 4000000 in
theorem delete_any (base G c k m : Nat) (us : List Nd) (w : World) (hG : GRow base w (.slice (some ⟨G, 0, none⟩) us.length c) us) (hm : us.length = k + m + 1) (hl : us.length ≤ 4) :
    Calls Tryz.prog 33 #[.slice (some ⟨G, 0, none⟩) (k + m + 1) c, .int .i64 (k : Int), .int .i64 ((k : Int) + 1)] w fun e w' =>
      e = .returned (.slice (some ⟨G, 0, none⟩) (k + m) c) ∧ GRow base w' (.slice (some ⟨G, 0, none⟩) (us.eraseIdx k).length c) (us.eraseIdx k) ∧ Turn (fun y => y = G) w w' := by
  obtain ⟨j0, hj0, hy0, hy1, hy2⟩ := info_parts node_info
  have J0 := hide hj0
  have J1 := hide hy1
  have hk : k < us.length := by omega
  obtain ⟨cr, hcr, hsz, htk, hmax⟩ : ∃ cr, Blk w G 37 cr ∧ cr.size = c * 2 ∧ cr.toList.take (us.length * 2) = flatN us ∧ c ≤ maxLen := by
    rcases hG.row.2 with ⟨q, _⟩ | ⟨g', cap, cr, q, _, h2, _, h4, h5, h6⟩
    · cases q
    · injection q with q1 _ q3
      injection q1 with q1
      injection q1 with q1
      subst q1 q3
      exact ⟨cr, h2, h5, h6, h4⟩
  have hcap := hG.caps.1
  obtain ⟨ax, hax⟩ : ∃ ax : Addr, (if c = k + 1 then some (⟨G, 0, none⟩ : Addr) else some ⟨G, (k + 1) * 2, none⟩) = some ax ∧ Hid (∀ j u, (flatN (us.drop (k + 1)))[j]? = some u → w.drew.cell? (ax.add j) = some u) := by
    by_cases h : c = k + 1
    · refine ⟨⟨G, 0, none⟩, by simp [h], fun t u hu => ?_⟩
      rw [List.drop_of_length_le (by omega)] at hu
      simp [flatN] at hu
    · exact ⟨⟨G, (k + 1) * 2, none⟩, by simp [h], hG.newsDrop⟩
  obtain ⟨W1, hW1⟩ : ∃ W1, W1 = w.drew.setCells G (0 + k * 2) (flatN (us.drop (k + 1))) := ⟨_, rfl⟩
  have HNL : Hid ((flatN (us.drop (k + 1))).length = m * 2) := by unfold Hid; rw [flatN_len, List.length_drop]; omega
  -- what is there at the end
  obtain ⟨cr2, hB2, hs2, ht2⟩ := Blk.setCells (flatN (us.drop (k + 1))) (0 + k * 2) hcr.drew (by rw [HNL.out]; omega)
  have hT2 := turn_setCells (g := G) (flatN (us.drop (k + 1))) (0 + k * 2) w.drew
  rw [← hW1] at hB2 hT2
  obtain ⟨cr3, hB3, hs3, ht3⟩ := Blk.setCells [.slice none 0 0, .slice none 0 0] ((k + m) * 2) hB2 (by simp only [List.length_cons, List.length_nil]; omega)
  have hT3 := turn_setCells (g := G) [.slice none 0 0, .slice none 0 0] ((k + m) * 2) W1
  have HF : Hid (GRow base (W1.setCells G ((k + m) * 2) [.slice none 0 0, .slice none 0 0]) (.slice (some ⟨G, 0, none⟩) (us.eraseIdx k).length c) (us.eraseIdx k) ∧ Turn (fun y => y = G) w (W1.setCells G ((k + m) * 2) [.slice none 0 0, .slice none 0 0])) := by
    have hT : Turn (fun y => y = G) w (W1.setCells G ((k + m) * 2) [.slice none 0 0, .slice none 0 0]) := (show Turn (fun y => y = G) w W1 from ⟨hT2.os, hT2.tape, hT2.output, hT2.size, hT2.block⟩).trans hT3
    refine ⟨hG.cut hT hk hB3 (by rw [hs3, hs2, hsz]) ?_, hT⟩
    rw [ht3, ht2, Nat.zero_add]
    have hfd := HNL.out
    have hft : (flatN (us.take k)).length = k * 2 := by rw [flatN_len, List.length_take]; omega
    have h0 : cr.toList.take (k * 2) = flatN (us.take k) := by
      have : (cr.toList.take (us.length * 2)).take (k * 2) = (flatN us).take (k * 2) := by rw [htk]
      rw [List.take_take, Nat.min_eq_left (by omega)] at this
      rw [this]
      have e : flatN us = flatN (us.take k) ++ flatN (us.drop k) := by rw [← flatN_append, List.take_append_drop]
      rw [e, List.take_append_of_le_length (by omega), List.take_of_length_le (by omega)]
    rw [h0, show (us.length - 1) * 2 = (k + m) * 2 by omega]
    have hlen : (flatN (us.take k) ++ flatN (us.drop (k + 1))).length = (k + m) * 2 := by rw [List.length_append, hft, hfd]; omega
    have h1 : (flatN (us.take k) ++ flatN (us.drop (k + 1)) ++ cr.toList.drop (k * 2 + (flatN (us.drop (k + 1))).length)).take ((k + m) * 2) = flatN (us.take k) ++ flatN (us.drop (k + 1)) := by
      rw [List.take_append_of_le_length (by omega), List.take_of_length_le (by omega)]
    rw [h1, List.append_assoc, List.take_append_of_le_length (by omega), List.take_of_length_le (by omega)]
  have hcl : ∀ ty, (Builtin.clear_ #[23] ty #[.slice (some ⟨G, (k + m) * 2, none⟩) 1 (c - (k + m))]).run Tryz.prog W1 = .ok (.tuple #[]) (W1.setCells G ((k + m) * 2) [.slice none 0 0, .slice none 0 0]) := fun ty => clear_nd ty W1 G ((k + m) * 2) (c - (k + m)) cr2 hB2 (by omega)
  have HSP : Hid (∀ j, j < (flatN (us.drop (k + 1))).length → (w.drew.cell? ⟨G, 0 + k * 2 + j, none⟩).isSome = true ∧ w.drew.frozen? ⟨G, 0 + k * 2 + j, none⟩ = false) := fun j hj => by
    have := HNL.out
    refine ⟨?_, hcr.drew.loose _⟩
    rw [hcr.drew.at, Array.getElem?_eq_getElem (by omega)]
    rfl
  have HAX := hide hax.2
  have hax1 := hax.1
  have HW1 := hide hW1
  have hck : k + m + 1 ≤ c := by omega
  have hcne : ¬ c = k + m := by omega
  have hne : ((k : Int) == (k : Int) + 1) = false := by rw [beq_eq_false_iff_ne]; omega
  have hkc : k ≤ c := by omega
  have hk1 : (0 : Int) ≤ (k : Int) + 1 := by omega
  have hkm : (k : Int) ≤ (k : Int) + (m : Int) := by omega
  have hk4 : k + m ≤ 3 := by omega
  unfold maxLen at hmax
  clear hax hG hcr hB2 hB3 hT2 hT3 hs2 hs3 ht2 ht3 htk hsz hj0 hy0 hy1 hy2 hW1 hcap hm hl hk
  go_enter Tryz.func33, Tryz.ntmps33
  go_wp2_with fail
  refine wp_region_noPanic ?_
  refine wp_region_held_drew (S := (fun _ => True)) (by kernel_rfl) (by exact True.intro) (fun hHeld => ?_)
  refine take_run 0 (some 20) (v := ?_) rfl rfl (by kernel_rfl) (by kernel_rfl) (by kernel_rfl) (fun _ _ _ h => h) (by rfl) ?_ hHeld ?_
  rotate_left
  · ((intro w hSw); (try dsimp only at hSw); go_simp <;> with_reducible rfl)
  simp only [Act.put, List.setIfInBounds_toArray, List.set_cons_zero, List.set_cons_succ]
  refine take_run 1 (some 21) (v := ?_) rfl rfl (by kernel_rfl) (by kernel_rfl) (by kernel_rfl) (fun _ _ _ h => h) (by rfl) ?_ hHeld ?_
  rotate_left
  · ((intro w hSw); (try dsimp only at hSw); go_simp <;> with_reducible rfl)
  simp only [Act.put, List.setIfInBounds_toArray, List.set_cons_zero, List.set_cons_succ]
  refine take_run 2 (some 22) (v := ?_) rfl rfl (by kernel_rfl) (by kernel_rfl) (by kernel_rfl) (fun _ _ _ h => h) (by rfl) ?_ hHeld ?_
  rotate_left
  · ((intro w hSw); (try dsimp only at hSw); go_simp <;> with_reducible rfl)
  simp only [Act.put, List.setIfInBounds_toArray, List.set_cons_zero, List.set_cons_succ]
  refine take_run 3 (some 23) (v := ?_) rfl rfl (by kernel_rfl) (by kernel_rfl) (by kernel_rfl) (fun _ _ _ h => h) (by rfl) ?_ hHeld ?_
  rotate_left
  · ((intro w hSw); (try dsimp only at hSw); go_simp <;> with_reducible rfl)
  simp only [Act.put, List.setIfInBounds_toArray, List.set_cons_zero, List.set_cons_succ]
  refine take_run 4 (some 24) (v := ?_) rfl rfl (by kernel_rfl) (by kernel_rfl) (by kernel_rfl) (fun _ _ _ h => h) (by rfl) ?_ hHeld ?_
  rotate_left
  · ((intro w hSw); (try dsimp only at hSw); go_simp <;> with_reducible rfl)
  simp only [Act.put, List.setIfInBounds_toArray, List.set_cons_zero, List.set_cons_succ]
  refine take_run 5 (some 25) (v := ?_) rfl rfl (by kernel_rfl) (by kernel_rfl) (by kernel_rfl) (fun _ _ _ h => h) (by rfl) ?_ hHeld ?_
  rotate_left
  · ((intro w hSw); (try dsimp only at hSw); go_simp <;> with_reducible rfl)
  simp only [Act.put, List.setIfInBounds_toArray, List.set_cons_zero, List.set_cons_succ]
  refine take_one 6 (by kernel_rfl) rfl (fun K hK => ?_)
  (refine step_append_room (by rfl) _ _ _ (by rfl) 37 j0 2 Tryz.underlying23 J0.out J1.out G 0 k c (by rfl) ax m (c - (k + 1)) (flatN (us.drop (k + 1))) (by simp only [Act.eval]; first | rfl | (rw [← hax1]; simp; done)) HNL.out HAX.out (flatN_one _) (by omega) HSP.out ?_; rw [← HW1.out])
  simp only [List.getElem_toArray, List.getElem_cons_zero, List.getElem_cons_succ, Act.put, List.setIfInBounds_toArray, List.set_cons_zero, List.set_cons_succ]
  refine hK.out _ _ (by exact True.intro) (fun hHeld => ?_)
  clear hK K
  refine take_run 7 (some 0) (v := ?_) rfl rfl (by kernel_rfl) (by kernel_rfl) (by kernel_rfl) (fun _ _ _ h => h) (by rfl) ?_ hHeld ?_
  rotate_left
  · ((intro w hSw); (try dsimp only at hSw); go_simp <;> with_reducible rfl)
  simp only [Act.put, List.setIfInBounds_toArray, List.set_cons_zero]
  refine wpAnyH_done (by kernel_rfl) ?_ _
  refine NoPanic.normal ?_
  clear hHeld
  go_wp2
  go_ret
  exact ⟨rfl, HF.out.1, HF.out.2⟩
end Go.Proofs.YtjnloillcgeodaaGreat
/- Contract of the program's ChainFall. Condition: sizes that memory holds. -/
namespace Go.Proofs.YtjnloillcgeodaaGreat
open Go.RowKit Go.Joins
attribute [local go_sem ↓] Go.wp_at_zero Go.wp_at_succ

/-- At the last of a valid chain nothing waits. -/
theorem bare_same {n : Nd} (h : n.ws = []) : Nd.like n (bare n) := ⟨rfl, like_refl _, by rw [h]; rfl, by rw [h]; exact like_refl _⟩
theorem last_same {r : List Nd} {n : Nd} (hn : r[r.length - 1]? = some n) (hw : n.ws = []) : NL r (lastN r) := by
  rw [lastN_at hn]
  refine ⟨by rw [List.length_set], fun i x y hx hy => ?_⟩
  rcases set_at hy with ⟨rfl, rfl, _⟩ | ⟨_, q⟩
  · rw [hn] at hx
    injection hx with hx
    subst hx
    exact bare_same hw
  · rw [hx] at q
    injection q with q
    subst q
    exact ⟨rfl, like_refl _, rfl, like_refl _⟩
/-- What the program leaves where the head fell, a node in the midst, the last. -/
theorem fall_head {us : List Nd} (h : chainB us = true) (h2 : 2 ≤ us.length) : NL (us.eraseIdx 0) (fallG us 0) := by
  unfold fallG
  rw [owedN_head (by omega)]
  have hl := erase_len (us := us) (k := 0) (by omega)
  obtain ⟨n, hn⟩ : ∃ n, (us.eraseIdx 0)[(us.eraseIdx 0).length - 1]? = some n := ⟨_, List.getElem?_eq_getElem (by omega)⟩
  have hn' := erase_at hn
  rw [if_neg (by omega)] at hn'
  exact last_same hn (chain_end h (by omega) hn')
theorem fall_mid {us : List Nd} {k : Nat} {n m n' : Nd} (h : chainB us = true) (hk : k + 1 < us.length) (h0 : 0 < k) (hn : (us.eraseIdx k)[k - 1]? = some n) (hm : (us.eraseIdx k)[k]? = some m) (hl : Nd.like n' (lackNd n m)) : NL ((us.eraseIdx k).set (k - 1) n') (fallG us k) := by
  unfold fallG
  rw [owedN_at h0 hn hm]
  have hle := erase_len (us := us) (k := k) (by omega)
  have h1 : NL ((us.eraseIdx k).set (k - 1) n') ((us.eraseIdx k).set (k - 1) (lackNd n m)) := nl_set ⟨rfl, fun i x y hx hy => by rw [hx] at hy; injection hy with hy; rw [hy]; exact ⟨rfl, like_refl _, rfl, like_refl _⟩⟩ hl
  obtain ⟨z, hz⟩ : ∃ z, (us.eraseIdx k)[(us.eraseIdx k).length - 1]? = some z := ⟨_, List.getElem?_eq_getElem (by omega)⟩
  have hz' := erase_at hz
  rw [if_neg (by omega)] at hz'
  have hzs : ((us.eraseIdx k).set (k - 1) (lackNd n m))[((us.eraseIdx k).set (k - 1) (lackNd n m)).length - 1]? = some z := by
    rw [List.length_set, List.getElem?_set_ne (by omega)]
    exact hz
  exact nl_trans h1 (last_same hzs (chain_end h (by omega) hz'))
theorem fall_end {us : List Nd} {k : Nat} {n n' : Nd} (hk : k + 1 = us.length) (h0 : 0 < k) (hn : (us.eraseIdx k)[k - 1]? = some n) (hl : Nd.like n' (bare n)) : NL ((us.eraseIdx k).set (k - 1) n') (fallG us k) := by
  unfold fallG
  have hle := erase_len (us := us) (k := k) (by omega)
  rw [owedN_head (by omega)]
  have e : (us.eraseIdx k).length - 1 = k - 1 := by omega
  rw [lastN_at (n := n) (by rw [e]; exact hn), e]
  exact nl_set ⟨rfl, fun i x y hx hy => by rw [hx] at hy; injection hy with hy; rw [hy]; exact ⟨rfl, like_refl _, rfl, like_refl _⟩⟩ hl
set_option maxRecDepth 100000 in
set_option maxHeartbeats 8000000 in
theorem implChainFall_any (A : Option Addr) (c : Nat) (ns : List Nd) (k : Int) (w : World) (hn : ns.length ≤ 1048576) (hm : SmN ns) (hC : CgA w A ns) :
    Calls Tryz.prog 8 #[.agg #[.slice A ns.length c], .int .i64 k] w (AnswerCB w (fallN ns k) (fallK ns k)) := by
  have S0 := ((Inv.start w).box 25 #[.slice A ns.length c]).box 25 #[.slice none 0 0]
  simp only [World.size_alloc] at S0
  have C0 := hide (implChainOk_any A c ns ((w.alloc (.cells #[.slice A ns.length c] 25)).alloc (.cells #[.slice none 0 0] 25)) hn hm (hC.on S0.below))
  have CC : Hid (∀ W, Below w.heap.size w W → Calls Tryz.prog 32 #[.agg #[.slice A ns.length c]] W (ClonedC W ns)) := fun W hW => chainClone_any A c ns W hn hm (hC.on hW)
  have k0 := (S0.nth 1 rfl).one.1
  clear hm hC
  cases ho : chainB ns
  · have HE := hide (fallN_no (k := k) ho)
    rw [ho] at C0
    clear ho
    go_enter Tryz.func8, Tryz.ntmps8
    go_wp2_with fail
    with_reducible refine C0.out.mono ?_
    rintro e w1 ⟨rfl, hb1⟩
    have S1 := S0.on hb1
    have q1 := (S1.nth 0 rfl).one
    clear S0 C0 k0
    go_wp2
    refine bodyPost_ret (v := .tuple #[.agg #[.slice none 0 0], .bool false]) (by simp [results, Tryz.results8, go_sem, q1]) rfl ?_
    exact answerCB_none HE.out (S1.below.setCell (by simp only; omega) _)
  · have HOK := hide ho
    rw [ho] at C0
    clear ho
    go_enter Tryz.func8, Tryz.ntmps8
    go_wp2_with fail
    with_reducible refine C0.out.mono ?_
    rintro e w2 ⟨rfl, hb1⟩
    have S2 := S0.on hb1
    have k2 := (S2.nth 1 rfl).one.1
    have zr := S2.room
    have zb := S2.base
    clear S0 C0 k0 hb1
    go_wp2_with fail
    with_reducible refine (CC.out _ S2.below).mono ?_
    rintro e w3 hcl
    obtain ⟨G, xc, us, rfl, hul, hu4, hB, hu1, hgr, hb3⟩ := cloned_at hcl HOK.out
    have HUL := hide hul
    have HB := hide hB
    have z3 := hb3.size
    have S3 := (S2.on hb3).alloc (.cells #[.slice (some ⟨G, 0, none⟩) us.length xc] 25)
    have V0 := Blk.made w3 25 #[.slice (some ⟨G, 0, none⟩) us.length xc]
    have HGR := hide (hgr.on (below_alloc1 w3 (.cells #[.slice (some ⟨G, 0, none⟩) us.length xc] 25)))
    have v0 := V0.one.1
    have HCU : Hid (chainB us = true) := by unfold Hid; rw [chainB_like hul]; exact HOK.out
    clear S2 k2 hb3 hul hgr hcl hB CC
    by_cases hin : (0 ≤ k ∧ k < (us.length : Int)) ∧ 2 ≤ us.length
    · obtain ⟨⟨hk0, hkl⟩, h2⟩ := hin
      obtain ⟨kn, rfl⟩ : ∃ kn : Nat, k = (kn : Int) := ⟨k.toNat, by omega⟩
      have hkn : kn < us.length := by omega
      have HFB : Hid (fallB ns (kn : Int) = true) := by
        unfold Hid fallB
        rw [← HUL.out.1, decide_eq_true h2, decide_eq_true ⟨hk0, hkl⟩]
        rfl
      obtain ⟨mm, hmm⟩ : ∃ mm, us.length = kn + mm + 1 := ⟨us.length - kn - 1, by omega⟩
      have hrl : (us.eraseIdx kn).length = kn + mm := by rw [erase_len hkn]; omega
      have HMM := hide hmm
      have HRL := hide hrl
      have hk9 : ¬ ((us.length : Int) ≤ (kn : Int)) := by omega
      have hk8 : ¬ ((kn : Int) ≥ (us.length : Int)) := by omega
      have hne1 : ((us.length : Int) == 1) = false := by rw [beq_eq_false_iff_ne]; omega
      have hGlo : w2.heap.size ≤ G := by obtain ⟨_, _, h, _⟩ := HGR.out.typed G rfl; exact h
      have HFN : Hid (fallN ns (kn : Int) = fallG ns kn ∧ fallK ns (kn : Int) = true) := by
        have := fallN_yes HOK.out HFB.out
        rwa [Int.toNat_natCast] at this
      clear hmm hrl
      go_wp2_with fail
      generalize hW0 : w3.alloc (.cells #[.slice (some ⟨G, 0, none⟩) us.length xc] 25) = W0 at V0 v0 HGR S3 ⊢
      have zA : w3.heap.size < W0.heap.size := by rw [← hW0]; simp
      obtain ⟨p3, hp3⟩ : ∃ p3, p3 = w3.heap.size := ⟨_, rfl⟩
      rw [← hp3] at V0 v0 zA z3 ⊢
      have HP3 := hide hp3
      clear hW0 hp3
      have hGp : ¬ p3 = G := fun e => by
        subst e
        obtain ⟨cs, h, _⟩ := HGR.out.typed p3 rfl
        exact absurd (blk_one V0 h) (by decide)
      have CD := delete_any w2.heap.size G xc kn mm us W0 HGR.out HMM.out hu4
      rw [← HMM.out, ← HRL.out] at CD
      have HCD := hide CD
      clear CD v0
      with_reducible refine HCD.out.mono ?_
      rintro e w4 ⟨rfl, hgr4, hT4⟩
      have HG4 := hide hgr4
      have V4 := V0.turned hT4 hGp
      have z4 := hT4.size
      have S4 := S3.turned hT4 (fun g h => by rw [h]; omega) (fun x hx h => by
        simp only [List.mem_cons, List.not_mem_nil, or_false] at hx
        rcases hx with rfl | rfl <;> simp only at h <;> omega)
      have v4 := V4.one
      have HGP := hide hGp
      clear hgr4 hT4 HCD HGR V0 S3 hGp
      have V5 := V4.put 0 (.slice (some ⟨G, 0, none⟩) (us.eraseIdx kn).length xc)
      simp only [List.setIfInBounds_toArray, List.set_cons_zero] at V5
      have S5 := S4.set (p := ⟨p3, 0, none⟩) (by simp only; omega) (by simp only; omega) (.slice (some ⟨G, 0, none⟩) (us.eraseIdx kn).length xc)
      have HG5 : Hid (GRow w2.heap.size (w4.setCell ⟨p3, 0, none⟩ (.slice (some ⟨G, 0, none⟩) (us.eraseIdx kn).length xc)) (.slice (some ⟨G, 0, none⟩) (us.eraseIdx kn).length xc) (us.eraseIdx kn)) := HG4.out.asideT (p := ⟨p3, 0, none⟩) V4 _
      have z5 : (w4.setCell ⟨p3, 0, none⟩ (.slice (some ⟨G, 0, none⟩) (us.eraseIdx kn).length xc)).heap.size = w4.heap.size := by simp [World.setCell]
      have hr4 : (us.eraseIdx kn).length ≤ 4 := by have := HRL.out; have := HMM.out; omega
      by_cases hk00 : kn = 0
      · have hkm1 : (kn : Int) - 1 < 0 := by omega
        have HNL0 : Hid (NL (us.eraseIdx kn) (fallG us kn)) := by unfold Hid; rw [hk00]; exact fall_head HCU.out h2
        clear hk00
        have v5 := V5.one.1
        have CT := hide (linkAt_out G (us.eraseIdx kn).length xc ((kn : Int) - 1) (w4.setCell ⟨p3, 0, none⟩ (.slice (some ⟨G, 0, none⟩) (us.eraseIdx kn).length xc)) (.inl hkm1))
        go_wp2_with fail
        with_reducible refine CT.out.mono ?_
        rintro e w6 ⟨rfl, hb6⟩
        have HG6 := hide (HG5.out.on hb6)
        have S6 := S5.on hb6
        have v6 := (V5.on hb6).one.1
        have q6 := (S6.nth 0 rfl).one
        have HFIN := hide (answerCB_row ((HG6.out.aside (p := ⟨w.heap.size + 1, 0, none⟩) (by simp only; omega) (.slice (some ⟨G, 0, none⟩) (us.eraseIdx kn).length xc)).down zb) (nl_trans HNL0.out (fallG_like HUL.out kn)) (b := true) (S6.below.setCell (p := ⟨w.heap.size + 1, 0, none⟩) (by simp only; omega) _))
        clear CT hb6 S6 HG6 v5
        go_wp2
        refine bodyPost_ret (v := .tuple #[.agg #[.slice (some ⟨G, 0, none⟩) (us.eraseIdx kn).length xc], .bool true]) (by simp [results, Tryz.results8, go_sem, q6]) rfl ?_
        rw [HFN.out.1, HFN.out.2]
        exact HFIN.out
      · obtain ⟨j, rfl⟩ : ∃ j, kn = j + 1 := ⟨kn - 1, by omega⟩
        have hjr : j < (us.eraseIdx (j + 1)).length := by have := HRL.out; omega
        obtain ⟨n, hn⟩ : ∃ n, (us.eraseIdx (j + 1))[j]? = some n := ⟨_, List.getElem?_eq_getElem hjr⟩
        have HN := hide hn
        have hj9 : j ≤ 1048576 := by omega
        have v5 := V5.one.1
        have CT := hide (linkAt_any G (us.eraseIdx (j + 1)).length xc j (w4.setCell ⟨p3, 0, none⟩ (.slice (some ⟨G, 0, none⟩) (us.eraseIdx (j + 1)).length xc)) (by omega) hj9)
        clear hn
        go_wp2_with fail
        with_reducible refine CT.out.mono ?_
        rintro e w6 ⟨hE, hb6⟩
        rw [if_pos hjr] at hE
        obtain ⟨L, rfl, hL⟩ := hE
        obtain ⟨_, _, _, _, _, hL1, _, _⟩ := id hL
        have HG6 := hide (HG5.out.on hb6)
        have V6 := V5.on hb6
        have S6 := S5.on hb6
        have z6 := hb6.size
        have hBr : Hid (∀ (i : Nat) m, (us.eraseIdx (j + 1))[i]? = some m → nodeB m = true) := fun i m hi => HB.out _ m (erase_at hi)
        have CO := hide (owed_any _ L w2.heap.size G xc j (us.eraseIdx (j + 1)) n w6.drew (HG6.out.on (Below.refl _ _).drew) (hL.on (Below.refl _ _).drew) HN.out hr4 hBr.out)
        obtain ⟨cur6, hcg6⟩ := HG6.out.cgs (by omega)
        have HCG6 := hide hcg6
        have hLG : ¬ L = G := fun e => by
          subst e
          exact absurd (blk_one hL1 hcg6.blk) (by decide)
        have HLG := hide hLG
        have hzd : w6.drew.heap.size = w6.heap.size := rfl
        clear CT hb6 hL hcg6 hLG v5
        go_wp2_with fail
        refine wp_region_noPanic ?_
        refine wp_region_held_drew (S := (fun w' => w'.cell? ⟨L, 0, none⟩ = some (.pointer (some ⟨G, j * 2, none⟩)))) (by kernel_rfl) (by exact hL1.drew.at 0) (fun hHeld => ?_)
        refine take_run 0 (some 44) (v := ?_) rfl rfl (by kernel_rfl) (by kernel_rfl) (by kernel_rfl) (fun _ _ _ h => h) (by rfl) ?_ hHeld ?_
        rotate_left
        · ((intro w hSw); (try dsimp only at hSw); go_simp <;> with_reducible rfl)
        simp only [Act.put, List.setIfInBounds_toArray, List.set_cons_zero, List.set_cons_succ]
        refine take_run 1 (some 45) (v := ?_) rfl rfl (by kernel_rfl) (by kernel_rfl) (by kernel_rfl) (fun _ _ _ h => h) (by rfl) ?_ hHeld ?_
        rotate_left
        · ((intro w hSw); (try dsimp only at hSw); go_simp <;> with_reducible rfl)
        simp only [Act.put, List.setIfInBounds_toArray, List.set_cons_zero, List.set_cons_succ]
        refine take_run 2 (some 46) (v := ?_) rfl rfl (by kernel_rfl) (by kernel_rfl) (by kernel_rfl) (fun _ _ _ h => h) (by rfl) ?_ hHeld ?_
        rotate_left
        · ((intro w hSw); (try dsimp only at hSw); go_simp <;> with_reducible rfl)
        simp only [Act.put, List.setIfInBounds_toArray, List.set_cons_zero, List.set_cons_succ]
        refine take_run 3 (some 47) (v := ?_) rfl rfl (by kernel_rfl) (by kernel_rfl) (by kernel_rfl) (fun _ _ _ h => h) (by rfl) ?_ hHeld ?_
        rotate_left
        · ((intro w hSw); (try dsimp only at hSw); go_simp <;> with_reducible rfl)
        simp only [Act.put, List.setIfInBounds_toArray, List.set_cons_zero, List.set_cons_succ]
        refine take_run 4 (some 48) (v := ?_) rfl rfl (by kernel_rfl) (by kernel_rfl) (by kernel_rfl) (fun _ _ _ h => h) (by rfl) ?_ hHeld ?_
        rotate_left
        · ((intro w hSw); (try dsimp only at hSw); go_simp <;> with_reducible rfl)
        simp only [Act.put, List.setIfInBounds_toArray, List.set_cons_zero, List.set_cons_succ]
        refine take_one 5 (by kernel_rfl) rfl (fun K hK => ?_)
        go_simp
        ((with_reducible refine CO.out.mono ?_); rintro e w7 ⟨A7, cap7, ws7, rfl, hll7, hcr7, hb7⟩; have HLL7 := hide hll7; have HCR7 := hide hcr7; have HB7 := hide hb7; have L7 := hL1.on (show Below w6.heap.size w6 w7 from (show Below w6.heap.size w6 w6.drew from (Below.refl _ _).drew).trans hb7); have n7 : w7.cell? ⟨G, j * 2 + 1, none⟩ = some (.slice n.wa n.ws.length n.wc) := (((HCG6.out.blk.drew).on hb7).at _).trans (HCG6.out.at' j n HN.out).2; have f7 := ((HCG6.out.blk.drew).on hb7).loose (j * 2 + 1); clear hll7 hcr7 hb7)
        try go_wp2_with fail
        refine hK.out _ _ (by exact L7.at 0) (fun hHeld => ?_)
        clear hK K
        refine take_run 6 (some 50) (v := ?_) rfl rfl (by kernel_rfl) (by kernel_rfl) (by kernel_rfl) (fun _ _ _ h => h) (by rfl) ?_ hHeld ?_
        rotate_left
        · ((intro w hSw); (try dsimp only at hSw); go_simp <;> with_reducible rfl)
        simp only [Act.put, List.setIfInBounds_toArray, List.set_cons_zero, List.set_cons_succ]
        refine take_run 7 (some 51) (v := ?_) rfl rfl (by kernel_rfl) (by kernel_rfl) (by kernel_rfl) (fun _ _ _ h => h) (by rfl) ?_ hHeld ?_
        rotate_left
        · ((intro w hSw); (try dsimp only at hSw); go_simp <;> with_reducible rfl)
        simp only [Act.put, List.setIfInBounds_toArray, List.set_cons_zero, List.set_cons_succ]
        refine take_one 8 (by kernel_rfl) rfl (fun K hK => ?_)
        go_simp
        refine hK.out _ _ (by exact (L7.aside (p := ⟨G, j * 2 + 1, none⟩) HLG.out _).at 0) (fun hHeld => ?_)
        clear hK K
        refine wpAnyH_done (by kernel_rfl) ?_ _
        refine NoPanic.normal ?_
        clear hHeld
        have HG8 := hide ((HG6.out.on (Below.refl _ _).drew).newWait (k := j) (n := n) (ws := ws7) (A := A7) (cap := cap7) HN.out HB7.out (HCR7.out.down (by have := (HG6.out).lo; omega)) (fun y hy => .inr (HCR7.out.footLo hy)))
        have S8 := ((S6.drew.on HB7.out).set (p := ⟨G, j * 2 + 1, none⟩) (by simp only; omega) (by simp only; omega) (.slice A7 ws7.length cap7))
        have V8 := ((V6.drew.on HB7.out).aside (p := ⟨G, j * 2 + 1, none⟩) HGP.out (.slice A7 ws7.length cap7))
        have v8 := V8.one.1
        have q8 := (S8.nth 0 rfl).one
        have HNL : Hid (NL ((us.eraseIdx (j + 1)).set j ⟨n.sa, n.sc, n.ss, A7, cap7, ws7⟩) (fallG us (j + 1))) := by
          have hq := HLL7.out
          unfold owesL at hq
          by_cases he : j + 1 + 1 < us.length
          · obtain ⟨m, hm⟩ : ∃ m, (us.eraseIdx (j + 1))[j + 1]? = some m := ⟨_, List.getElem?_eq_getElem (by have := HRL.out; have := HMM.out; omega)⟩
            rw [hm] at hq
            exact fall_mid HCU.out he (by omega) (by simpa using HN.out) hm ⟨rfl, like_refl _, hq.1, hq.2⟩
          · rw [List.getElem?_eq_none (by have := HRL.out; have := HMM.out; omega)] at hq
            have hnil : ws7 = [] := List.length_eq_zero_iff.1 hq.1
            exact fall_end (by omega) (by omega) (by simpa using HN.out) ⟨rfl, like_refl _, by rw [hnil]; rfl, by rw [hnil]; exact like_refl _⟩
        have hsl : ((us.eraseIdx (j + 1)).set j ⟨n.sa, n.sc, n.ss, A7, cap7, ws7⟩).length = (us.eraseIdx (j + 1)).length := List.length_set
        have HFIN := hide (answerCB_row ((HG8.out.aside (p := ⟨w.heap.size + 1, 0, none⟩) (by simp only; omega) (.slice (some ⟨G, 0, none⟩) (us.eraseIdx (j + 1)).length xc)).down zb) (nl_trans HNL.out (fallG_like HUL.out (j + 1))) (b := true) (S8.below.setCell (p := ⟨w.heap.size + 1, 0, none⟩) (by simp only; omega) _))
        generalize w7.setCell ⟨G, j * 2 + 1, none⟩ (.slice A7 ws7.length cap7) = W8 at v8 q8 HFIN ⊢
        clear CO L7 n7 f7 hsl V8 S8 HG8
        go_wp2
        refine bodyPost_ret (v := .tuple #[.agg #[.slice (some ⟨G, 0, none⟩) (us.eraseIdx (j + 1)).length xc], .bool true]) (by simp [results, Tryz.results8, go_sem, q8]) rfl ?_
        rw [HFN.out.1, HFN.out.2]
        exact HFIN.out
    · have hge : k < 0 ∨ (¬ k < 0 ∧ (us.length : Int) ≤ k) ∨ (¬ k < 0 ∧ ¬ (us.length : Int) ≤ k ∧ us.length = 1) := by omega
      have HE : Hid (fallN ns k = ns ∧ fallK ns k = false) := fallN_not HOK.out (by
        unfold fallB
        rw [← HUL.out.1]
        by_cases h2 : 2 ≤ us.length
        · rw [decide_eq_false (p := 0 ≤ k ∧ k < (us.length : Int)) (fun q => hin ⟨q, h2⟩), Bool.and_false]
        · rw [decide_eq_false h2, Bool.false_and])
      have q3 := (S3.nth 0 rfl).one
      have HFIN := hide (answerCB_row ((HGR.out.aside (p := ⟨w.heap.size + 1, 0, none⟩) (by simp only; omega) (.slice (some ⟨G, 0, none⟩) us.length xc)).down zb) HUL.out (b := false) (S3.below.setCell (p := ⟨w.heap.size + 1, 0, none⟩) (by simp only; omega) _))
      clear hin S3 HGR V0
      rcases hge with h1 | ⟨h1, h2⟩ | ⟨h1, h2, h3⟩
      · go_wp2
        refine bodyPost_ret (v := .tuple #[.agg #[.slice (some ⟨G, 0, none⟩) us.length xc], .bool false]) (by simp [results, Tryz.results8, go_sem, q3]) rfl ?_
        rw [HE.out.1, HE.out.2]
        exact HFIN.out
      · have h2' : k ≥ (us.length : Int) := by omega
        go_wp2
        refine bodyPost_ret (v := .tuple #[.agg #[.slice (some ⟨G, 0, none⟩) us.length xc], .bool false]) (by simp [results, Tryz.results8, go_sem, q3]) rfl ?_
        rw [HE.out.1, HE.out.2]
        exact HFIN.out
      · have h2' : ¬ k ≥ (us.length : Int) := by omega
        have h3' : ((us.length : Int) == 1) = true := by rw [h3]; rfl
        clear h3
        go_wp2
        refine bodyPost_ret (v := .tuple #[.agg #[.slice (some ⟨G, 0, none⟩) us.length xc], .bool false]) (by simp [results, Tryz.results8, go_sem, q3]) rfl ?_
        rw [HE.out.1, HE.out.2]
        exact HFIN.out
end Go.Proofs.YtjnloillcgeodaaGreat
