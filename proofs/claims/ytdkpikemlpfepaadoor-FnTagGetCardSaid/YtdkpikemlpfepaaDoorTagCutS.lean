/- Contract of the model's cutting of a text at a point. Condition: at most 1048576 letters. -/
import Derived.Test.YtdkpikemlpfepaaDoorTagNumS
import Derived.Deep.AppendLies
import Derived.OwnWalk
namespace Go.Proofs.YtdkpikemlpfepaaDoor
open Go.RowKit Go.Joins
attribute [local go_sem ↓] Go.wp_at_zero Go.wp_at_succ

theorem ext_list (s : ByteArray) (i j : Nat) : (s.extract i j).data.toList = (s.data.toList.drop i).take (j - i) := by
  rw [ByteArray.data_extract, Array.toList_extract, List.extract_eq_take_drop]
/-- What l1Cut holds on its way: parts without a point, what lies ahead of them, and no point since. -/
structure Parts (l : List UInt8) (ps : List ByteArray) (f i : Nat) : Prop where
  few : ps.length ≤ 2
  fi : f ≤ i
  il : i ≤ l.length
  size : ∀ p ∈ ps, p.size ≤ 1048576
  dots : ∀ p ∈ ps, (46 : UInt8) ∉ p.data.toList
  ahead : l.take f = (ps.map fun p => p.data.toList ++ [46]).flatten
  since : (46 : UInt8) ∉ (l.drop f).take (i - f)
theorem Parts.start (l : List UInt8) : Parts l [] 0 0 := ⟨by simp, Nat.le_refl _, Nat.zero_le _, by simp, by simp, by simp, by simp⟩
theorem Parts.no {l : List UInt8} {ps : List ByteArray} {f i : Nat} {c : UInt8} (h : Parts l ps f i) (hc : l[i]? = some c) (hn : c ≠ 46) : Parts l ps f (i + 1) :=
  ⟨h.few, by have := h.fi; omega, by have := (List.getElem?_eq_some_iff.1 hc).1; omega, h.size, h.dots, h.ahead, by
    have hfi := h.fi
    have e : (l.drop f)[i - f]? = some c := by rw [List.getElem?_drop, ← hc]; congr 1; omega
    rw [show i + 1 - f = (i - f) + 1 by omega, List.take_add_one, e]
    intro hm
    rcases List.mem_append.1 hm with hm | hm
    · exact h.since hm
    · have e46 : (46 : UInt8) = c := by simpa using hm
      exact hn e46.symm⟩
theorem Parts.yes {s : ByteArray} {ps : List ByteArray} {f i : Nat} (hs : s.size ≤ 1048576) (h : Parts s.data.toList ps f i) (hc : s.data.toList[i]? = some 46) (h2 : ps.length < 2) : Parts s.data.toList (ps ++ [s.extract f i]) (i + 1) (i + 1) := by
  have hfi := h.fi
  have hil := (List.getElem?_eq_some_iff.1 hc).1
  refine ⟨by simp; omega, Nat.le_refl _, by omega, fun p hp => ?_, fun p hp => ?_, ?_, by simp⟩
  · rcases List.mem_append.1 hp with hp | hp
    · exact h.size p hp
    · rw [List.mem_singleton.1 hp]
      simp
      omega
  · rcases List.mem_append.1 hp with hp | hp
    · exact h.dots p hp
    · rw [List.mem_singleton.1 hp, ext_list]
      exact h.since
  · rw [List.map_append, List.flatten_append, ← h.ahead]
    simp only [List.map_cons, List.map_nil, List.flatten_cons, List.flatten_nil, List.append_nil, ext_list]
    rw [List.take_add_one, hc, ← List.append_assoc]
    congr 1
    have : s.data.toList.take i = s.data.toList.take (f + (i - f)) := by congr 1; omega
    rw [this, List.take_add]
/-- What l1Cut answers. -/
structure CutM (l : List UInt8) (ps : List ByteArray) : Prop where
  few : ps.length ≤ 3
  size : ∀ p ∈ ps, p.size ≤ 1048576
  two : ∀ a b : List UInt8, (46 : UInt8) ∉ a → (46 : UInt8) ∉ b → l = a ++ 46 :: b → ps.map (fun p => p.data.toList) = [a, b]
theorem Parts.done {s : ByteArray} {ps : List ByteArray} {f i : Nat} (hs : s.size ≤ 1048576) (h : Parts s.data.toList ps f i) (he : i = s.size ∨ ps.length = 2) : CutM s.data.toList (ps ++ [s.extract f s.size]) := by
  have hfew := h.few
  have hall : s.data.toList = (ps.map fun p => p.data.toList ++ [46]).flatten ++ s.data.toList.drop f := by rw [← h.ahead, List.take_append_drop]
  have hlast : (s.extract f s.size).data.toList = s.data.toList.drop f := by
    rw [ext_list, List.take_of_length_le]
    rw [List.length_drop, len_list]
    omega
  refine ⟨by simp; omega, fun p hp => ?_, fun a b ha hb hl => ?_⟩
  · rcases List.mem_append.1 hp with hp | hp
    · exact h.size p hp
    · rw [List.mem_singleton.1 hp]
      simp
      omega
  · rw [List.map_append, List.map_cons, List.map_nil, hlast]
    match ps, h, he, hfew, hall with
    | [], h, he, _, hall =>
      have hi : i = s.size := by simpa using he
      have hn := h.since
      rw [hi, List.take_of_length_le (by rw [List.length_drop, len_list]; omega)] at hn
      have hq : s.data.toList.drop f = s.data.toList := by simpa using hall.symm
      rw [hq, hl] at hn
      exact absurd (by simp) hn
    | [p], h, _, _, hall =>
      have hd := h.dots p (by simp)
      have hq : a ++ 46 :: b = p.data.toList ++ 46 :: s.data.toList.drop f := by rw [← hl]; simpa using hall
      obtain ⟨q1, q2⟩ := split_dot ha hd hq
      rw [q1, q2]
      rfl
    | [p, q], h, _, _, hall =>
      have hd := h.dots p (by simp)
      have hq : a ++ 46 :: b = p.data.toList ++ 46 :: (q.data.toList ++ 46 :: s.data.toList.drop f) := by rw [← hl]; simpa using hall
      obtain ⟨q1, q2⟩ := split_dot ha hd hq
      exact absurd (by rw [q2]; simp) hb
    | p :: q :: r :: t, _, _, hf, _ => simp at hf
theorem text_info : (Tryd.prog.info? 9).map (fun i => (i.zero, i.size, i.bytes)) = some (some (.string ⟨#[]⟩), 1, 16) := by kernel_rfl
set_option maxRecDepth 100000 in
set_option maxHeartbeats 4000000 in
theorem l1Cut_any (s : ByteArray) (hs : s.size ≤ 1048576) (w : World) :
    Calls Tryd.prog 26 #[.string s, .int .u8 46, .int .i64 2] w fun e w' => ∃ (g cap : Nat) (ps : List ByteArray), e = .returned (.slice (some ⟨g, 0, none⟩) ps.length cap) ∧ w'.ownsRow w.heap.size 9 1 (.slice (some ⟨g, 0, none⟩) ps.length cap) ps.length (ps.map Value.string) ∧ CutM s.data.toList ps ∧ Below w.heap.size w w' := by
  obtain ⟨i0, hi0, hz0, hz1, hz2⟩ := info_parts text_info
  have I0 := hide hi0
  have I1 := hide hz0
  have I2 := hide hz1
  have I3 := hide hz2
  clear hi0 hz0 hz1 hz2
  have O0 : (w.alloc (.cells #[] 9)).ownsRow w.heap.size 9 1 (.slice (some ⟨w.heap.size, 0, none⟩) 0 0) 0 [] := ⟨rfl, .inr ⟨w.heap.size, 0, #[], rfl, Nat.le_refl _, Blk.made w _ _, Nat.le_refl _, Nat.zero_le _, rfl, rfl⟩⟩
  have HO0 := hide O0
  have LL := len_list s
  clear O0
  go_enter Tryd.func26, Tryd.ntmps26
  go_wp2
  go_loopw [7, 8, 9] (fun v x i wr => ∃ (G xc f k : Nat) (ps : List ByteArray), v = .slice (some ⟨G, 0, none⟩) ps.length xc ∧ x = .int .i64 (f : Int) ∧ i = .int .i64 (k : Int) ∧ wr.ownsRow w.heap.size 9 1 (.slice (some ⟨G, 0, none⟩) ps.length xc) ps.length (ps.map Value.string) ∧ Parts s.data.toList ps f k ∧ Below w.heap.size w wr) (fun _ _ i _ => s.size - (intOf i).toNat)
  case atStart => exact ⟨w.heap.size, 0, 0, 0, [], rfl, rfl, rfl, HO0.out, Parts.start _, below_alloc1 w _⟩
  case round =>
    obtain ⟨G, xc, f, k, ps, rfl, rfl, rfl, hO, hP, hL⟩ := hrel
    have HO := hide hO
    have HP := hide hP
    have hsz := hL.size
    have hfi := hP.fi
    have hkl := hP.il
    have hfew := hP.few
    rw [LL] at hkl
    have hvb : Hid (∀ g, (Value.slice (some ⟨G, 0, none⟩) ps.length xc).ownBlock = some g → w.heap.size ≤ g) := fun g hg => by
      rcases HO.out.2 with ⟨h, _⟩ | ⟨g', cap, cr, h, hg', _⟩
      · cases h
      · injection h with h1 h2 h3
        injection h1 with h1
        injection h1 with h1
        simp [Value.ownBlock] at hg
        omega
    clear hO hP LL
    by_cases hlt : k < s.size
    · have HA := hide (at_list hlt)
      have i1 : (0 : Int) ≤ (k : Int) := by omega
      have i2 : (k : Int) < (s.size : Int) := by omega
      by_cases hl2 : ps.length < 2
      · have i3 : (ps.length : Int) < 2 := by omega
        obtain ⟨c, hc⟩ : ∃ c, c = s[k] := ⟨_, rfl⟩
        have hv : s[k] = c := hc.symm
        rw [hv] at HA
        clear hc
        by_cases h46 : c = 46
        · subst h46
          have HY := hide (HP.out.yes hs HA.out hl2)
          have j1 : (0 : Int) ≤ (f : Int) := by omega
          have j2 : (f : Int) ≤ (k : Int) := by omega
          have j3 : (k : Int) ≤ (s.size : Int) := by omega
          go_wp2_with (at_builtin; refine wpList_append_lies _ rfl (.tmp 28) (.tmp 33) 47 rfl w.heap.size 9 i0 _ 1 16 Tryd.underlying47 I0.out I1.out I2.out I3.out rfl (by omega) (.slice (some ⟨G, 0, none⟩) ps.length xc) ps.length (ps.map Value.string) rfl (HO.out.alloc _) ⟨wr.heap.size, 0, none⟩ 1 1 [.string (s.extract f k)] rfl rfl (World.news_of_block (cs := #[.string (s.extract f k)]) (by simpa using heap_alloc_new wr (.cells #[.string (s.extract f k)] 9))) (by simp [Value.oneCell']) (by omega) (by unfold maxLen; omega) (by omega) (by simp; omega) _ rfl ?_; intro g cap w2 hown hgrow hat hlt2; have OW := hide hown; have L2 := ((hL.alloc hL.size (.cells #[.string (s.extract f k)] 9)).grown hgrow (by simp; omega) hvb.out); clear hown hgrow hat hlt2)
          go_wp2
          exact ⟨⟨g, cap, k + 1, k + 1, ps ++ [s.extract f k], by simp, by go_num, by go_num, by simpa using OW.out, HY.out, L2⟩, by simp [intOf]; omega⟩
        · have HN := hide (HP.out.no HA.out h46)
          have e46 : ((c.toNat : Int) == 46) = false := beq_eq_false_iff_ne.2 fun e => h46 (UInt8.toNat_inj.1 (by have : (46 : UInt8).toNat = 46 := rfl; omega))
          go_wp2
          exact ⟨⟨G, xc, f, k + 1, ps, rfl, rfl, by go_num, HO.out, HN.out, hL⟩, by simp [intOf]; omega⟩
      · have i3 : ¬ ((ps.length : Int) < 2) := by omega
        have HF := hide (HP.out.done hs (.inr (by omega)))
        have j1 : (0 : Int) ≤ (f : Int) := by omega
        have j2 : (f : Int) ≤ (s.size : Int) := by omega
        go_wp2_with (at_builtin; refine wpList_append_lies _ rfl (.tmp 37) (.tmp 41) 47 rfl w.heap.size 9 i0 _ 1 16 Tryd.underlying47 I0.out I1.out I2.out I3.out rfl (by omega) (.slice (some ⟨G, 0, none⟩) ps.length xc) ps.length (ps.map Value.string) rfl (HO.out.alloc _) ⟨wr.heap.size, 0, none⟩ 1 1 [.string (s.extract f s.size)] rfl rfl (World.news_of_block (cs := #[.string (s.extract f s.size)]) (by simpa using heap_alloc_new wr (.cells #[.string (s.extract f s.size)] 9))) (by simp [Value.oneCell']) (by omega) (by unfold maxLen; omega) (by omega) (by simp; omega) _ rfl ?_; intro g cap w2 hown hgrow hat hlt2; have OW := hide hown; have L2 := ((hL.alloc hL.size (.cells #[.string (s.extract f s.size)] 9)).grown hgrow (by simp; omega) hvb.out); clear hown hgrow hat hlt2)
        go_wp2
        go_ret
        exact ⟨g, cap, ps ++ [s.extract f s.size], by simp, by simpa using OW.out, HF.out, L2⟩
    · have i2 : ¬ ((k : Int) < (s.size : Int)) := by omega
      have HF := hide (HP.out.done hs (.inl (by omega)))
      have j1 : (0 : Int) ≤ (f : Int) := by omega
      have j2 : (f : Int) ≤ (s.size : Int) := by omega
      go_wp2_with (at_builtin; refine wpList_append_lies _ rfl (.tmp 37) (.tmp 41) 47 rfl w.heap.size 9 i0 _ 1 16 Tryd.underlying47 I0.out I1.out I2.out I3.out rfl (by omega) (.slice (some ⟨G, 0, none⟩) ps.length xc) ps.length (ps.map Value.string) rfl (HO.out.alloc _) ⟨wr.heap.size, 0, none⟩ 1 1 [.string (s.extract f s.size)] rfl rfl (World.news_of_block (cs := #[.string (s.extract f s.size)]) (by simpa using heap_alloc_new wr (.cells #[.string (s.extract f s.size)] 9))) (by simp [Value.oneCell']) (by omega) (by unfold maxLen; omega) (by omega) (by simp; omega) _ rfl ?_; intro g cap w2 hown hgrow hat hlt2; have OW := hide hown; have L2 := ((hL.alloc hL.size (.cells #[.string (s.extract f s.size)] 9)).grown hgrow (by simp; omega) hvb.out); clear hown hgrow hat hlt2)
      go_wp2
      go_ret
      exact ⟨g, cap, ps ++ [s.extract f s.size], by simp, by simpa using OW.out, HF.out, L2⟩

end Go.Proofs.YtdkpikemlpfepaaDoor
