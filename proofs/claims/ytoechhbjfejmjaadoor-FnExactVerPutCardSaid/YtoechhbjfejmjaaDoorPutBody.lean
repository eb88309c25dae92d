/- Contract of what versions and the records of writes have in common, as the program writes it. Condition: at most four tags, at most 1048576 letters; the table of powers reads as it is laid. -/
import Derived.Test.YtoechhbjfejmjaaDoorPutRest
import Derived.Test.YtoechhbjfejmjaaDoorJoinX
import Derived.Deep.AppendLies
import Derived.OwnWalk
namespace Go.Proofs.YtoechhbjfejmjaaDoor
open Go.RowKit Go.Joins
attribute [local go_sem ↓] Go.wp_at_zero Go.wp_at_succ

theorem word_info : (Tryd.prog.info? 9).map (fun i => (i.zero, i.size, i.bytes)) = some (some (.string ⟨#[]⟩), 1, 16) := by kernel_rfl
theorem wordsP_step {ts : List (Int × Int)} {k : Nat} {x : Int × Int} (h : ts[k]? = some x) : wordsP (ts.take (k + 1)) = wordsP (ts.take k) ++ [tagP x.1 x.2] := by
  unfold wordsP
  rw [List.take_add_one, h]
  simp
theorem flat_len (M : Nat) : ∀ xs : List (List UInt8), (∀ x ∈ xs, x.length ≤ M) → ((xs.map (([32] : List UInt8) ++ ·)).flatten).length ≤ xs.length * (M + 1)
  | [], _ => by simp
  | x :: r, h => by
    have h1 := flat_len M r (fun y hy => h y (List.mem_cons_of_mem _ hy))
    have h2 := h x List.mem_cons_self
    simp only [List.map_cons, List.flatten_cons, List.length_append, List.length_cons, List.length_nil]
    rw [Nat.succ_mul]
    omega
theorem join_len (M : Nat) (xs : List (List UInt8)) (h : ∀ x ∈ xs, x.length ≤ M) : (Lib.join xs [32]).length ≤ xs.length * (M + 1) := by
  by_cases hx : xs = []
  · subst hx; simp [Lib.join_nil]
  · have h1 := congrArg List.length (sep_join [32] xs hx)
    have h2 := flat_len M xs h
    rw [List.length_append] at h1
    omega
theorem row_cells {w : World} {B g n cap : Nat} {T : TypeId} {xs : List ByteArray} (h : w.ownsRow B T 1 (.slice (some ⟨g, 0, none⟩) n cap) n (xs.map Value.string)) (hl : xs.length = n) : n ≤ cap ∧ ∀ (j : Nat) x, xs[j]? = some x → w.cell? ⟨g, 0 + j, none⟩ = some (.string x) := by
  rcases h.2 with ⟨h, _⟩ | ⟨g', cap', cur, h, _, hb, hc, _, hs, ht⟩
  · cases h
  · injection h with h1 h2 h3
    injection h1 with h1
    injection h1 with h1
    subst h1
    subst h3
    refine ⟨hc, fun j x hj => ?_⟩
    have hb' : Blk w g T cur := hb
    have hlt := (List.getElem?_eq_some_iff.1 hj).1
    have a0 : (cur.toList.take (n * 1))[j]? = some (.string x) := by rw [ht, List.getElem?_map, hj]; rfl
    rw [List.getElem?_take_of_lt (by omega)] at a0
    rw [Nat.zero_add]
    exact (hb'.at j).trans (by simpa using a0)
theorem tagP_few (t u : Int) : (tagP t u).size ≤ 1100 := by
  cases h : okB t u
  · rw [tagP_no h]
    show (0 : Nat) ≤ 1100
    omega
  · rw [tagP_yes h]
    obtain ⟨x, y, rfl, rfl, hx, hy⟩ := okB_low h
    have := tagS_size x y
    simp only [Int.toNat_natCast]
    omega
theorem text_len (s : ByteArray) : s.data.toList.length = s.size := by rw [Array.length_toList]; rfl
theorem words_len {ts : List (Int × Int)} {r : ByteArray} (h4 : ts.length ≤ 4) (hr : r.size ≤ 1048577) : (Lib.join ((wordsP ts ++ [r]).map (·.data.toList)) [32]).length ≤ 140737488355328 := by
  have h := join_len 1048577 ((wordsP ts ++ [r]).map (·.data.toList)) (fun x hx => by
    obtain ⟨y, hy, rfl⟩ := List.mem_map.1 hx
    rw [text_len]
    rcases List.mem_append.1 hy with hy | hy
    · unfold wordsP at hy
      obtain ⟨z, _, rfl⟩ := List.mem_map.1 hy
      have := tagP_few z.1 z.2
      omega
    · rw [List.mem_singleton.1 hy]
      exact hr)
  have hl : ((wordsP ts ++ [r]).map (·.data.toList)).length = ts.length + 1 := by simp [wordsP]
  rw [hl] at h
  have : (ts.length + 1) * (1048577 + 1) ≤ 5 * (1048577 + 1) := Nat.mul_le_mul_right _ (by omega)
  omega
set_option maxRecDepth 100000 in
set_option maxHeartbeats 4000000 in
theorem putWords_any (a : Option Addr) (c : Nat) (ts : List (Int × Int)) (s : ByteArray) (w : World) (hn : ts.length ≤ 4) (hs : s.size ≤ 1048576) (hT : PowTab w) (ht : Tg w w.heap.size a ts) :
    Calls Tryd.prog 22 #[.agg #[.slice a ts.length c], .iface 82 (.agg #[.string s])] w fun e w' => e = .returned (.string (bodyS ts (restS s false))) ∧ Below w.heap.size w w' := by
  have hm : ∀ W : World, (method 274 82 (.agg #[.string s]) "loop.example/confluence/impl.rest").run Tryd.prog W = .ok (131, .agg #[.string s]) W := fun _ => by kernel_rfl
  obtain ⟨i0, hi0, hz0, hz1, hz2⟩ := info_parts word_info
  have I0 := hide hi0
  have I1 := hide hz0
  have I2 := hide hz1
  have I3 := hide hz2
  clear hi0 hz0 hz1 hz2
  have S0 := (Inv.start w).box 34 #[.slice a ts.length c]
  simp only [World.size_alloc] at S0
  have q0 := (S0.nth 0 rfl).one
  have HT := hide hT
  clear hT
  generalize hnn : ts.length = n at *
  have HN := hide hnn
  clear hnn
  go_enter Tryd.func22, Tryd.ntmps22
  go_wp2
  go_loopw [5, 11] (fun v i wr => ∃ k : Nat, k ≤ n ∧ i = .int .i64 (k : Int) ∧ wr.ownsRow w.heap.size 9 1 v k ((wordsP (ts.take k)).map Value.string) ∧ Below w.heap.size w wr) (fun _ i _ => n - (intOf i).toNat)
  case atStart => exact ⟨0, Nat.zero_le _, rfl, ⟨rfl, .inl ⟨rfl, rfl⟩⟩, S0.below⟩
  case round =>
    obtain ⟨k, hk, rfl, hO, hL⟩ := hrel
    clear S0 q0
    have hsz := hL.size
    have hvb : Hid (∀ g, u5.ownBlock = some g → w.heap.size ≤ g) := fun g hg => by
      rcases hO.2 with ⟨rfl, _⟩ | ⟨g', cap, cr, rfl, hg', _⟩
      · simp [Value.ownBlock] at hg
      · simp [Value.ownBlock] at hg; omega
    by_cases hlt : k < n
    · rcases ht with h0 | ⟨b, off, rfl, hb, hx⟩
      · have := HN.out; subst h0; simp at this; omega
      · obtain ⟨x, hxx⟩ : ∃ x, ts[k]? = some x := ⟨_, List.getElem?_eq_getElem (by have := HN.out; omega)⟩
        have HW := hide (wordsP_step hxx)
        have c0 := (hL.cell (p := ⟨b, off + k * 2, none⟩) hb).trans (hx k x hxx).1
        have c1 := (hL.cell (p := ⟨b, off + k * 2 + 1, none⟩) hb).trans (hx k x hxx).2
        obtain ⟨x1, x2⟩ := x
        simp only at c0 c1 HW
        have i1 : (0 : Int) ≤ (k : Int) := by omega
        have i2 : (k : Int) < (n : Int) := by omega
        have HO := hide hO
        have C1 := hide (fun W (h : Below w.heap.size w W) => implTagPut_any x1 x2 W (HT.out.on h))
        have hbx := ((Inv.start w).on hL).top.box 31 #[.int .i64 x1, .int .i64 x2]
        have q1 := (hbx.nth 0 rfl).two
        clear hx hO hxx
        go_wp2_with fail
        refine (C1.out _ hbx.below).mono ?_
        rintro e w1 ⟨rfl, hb1⟩
        have hL1 := (hbx.on hb1).below
        have HO1 := hide (World.ownsRow.kept (HO.out.alloc (.cells #[.int .i64 x1, .int .i64 x2] 31)) (grown_none (row := none) hb1) (Classical.em _))
        have hsz1 := hL1.size
        clear hbx hb1 q1 C1 HO
        generalize tagP x1 x2 = p at HW ⊢
        go_wp2_with (at_builtin; refine wpList_append_lies _ rfl (.tmp 15) (.tmp 18) 56 rfl w.heap.size 9 i0 _ 1 16 Tryd.underlying56 I0.out I1.out I2.out I3.out rfl (by omega) u5 k ((wordsP (ts.take k)).map Value.string) rfl (HO1.out.alloc _) ⟨w1.heap.size, 0, none⟩ 1 1 [.string (p)] rfl rfl (World.news_of_block (cs := #[.string (p)]) (by simpa using heap_alloc_new w1 (.cells #[.string (p)] 9))) (by simp [Value.oneCell']) (by omega) (by unfold maxLen; omega) (by omega) (by simp; omega) _ rfl ?_; intro g cap w2 hown hgrow hat hlt2; have OW := hide hown; have L2 := ((hL1.alloc hL1.size (.cells #[.string (p)] 9)).grown hgrow (by simp; omega) hvb.out); clear hown hgrow hat)
        exact ⟨⟨k + 1, by omega, by go_num, by rw [HW.out]; simpa using OW.out, L2⟩, by simp [intOf]; omega⟩
    · have hkn : k = n := by omega
      subst hkn
      have HE : Hid (wordsP (ts.take k) = wordsP ts) := by unfold Hid; rw [← HN.out, List.take_length]
      rw [HE.out] at hO
      have HO := hide hO
      have HR := hide (fun W => valueRest_any s hs W)
      clear hlt hO
      go_wp2_with fail
      refine (HR.out _).mono ?_
      rintro e w1 ⟨rfl, hb1⟩
      have hL1 := hL.trans (hb1.mono hL.size)
      have HO1 := hide (World.ownsRow.kept HO.out (grown_none (row := none) hb1) (Classical.em _))
      have hsz1 := hL1.size
      clear hb1 HO
      have hrs : (restS s false).size ≤ 1048577 := by
        show (ByteArray.mk #[61] ++ s).size ≤ _
        rw [ByteArray.size_append]
        have : (ByteArray.mk #[61]).size = 1 := rfl
        omega
      have HB : Hid (bodyS ts (restS s false) = ⟨(Lib.join ((wordsP ts ++ [restS s false]).map (·.data.toList)) [32]).toArray⟩) := rfl
      obtain ⟨r, hre⟩ : ∃ r, r = restS s false := ⟨_, rfl⟩
      rw [← hre] at hrs HB
      have HRE := hide hre
      rw [← hre]
      clear hre
      go_wp2_with (at_builtin; refine wpList_append_lies _ rfl (.tmp 21) (.tmp 24) 56 rfl w.heap.size 9 i0 _ 1 16 Tryd.underlying56 I0.out I1.out I2.out I3.out rfl (by omega) u5 k ((wordsP ts).map Value.string) rfl (HO1.out.alloc _) ⟨w1.heap.size, 0, none⟩ 1 1 [.string (r)] rfl rfl (World.news_of_block (cs := #[.string (r)]) (by simpa using heap_alloc_new w1 (.cells #[.string (r)] 9))) (by simp [Value.oneCell']) (by omega) (by unfold maxLen; omega) (by omega) (by simp; omega) _ rfl ?_; intro g cap w2 hown hgrow hat hlt2; have OW := hide hown; have L2 := ((hL1.alloc hL1.size (.cells #[.string (r)] 9)).grown hgrow (by simp; omega) hvb.out); clear hown hgrow hat)
      have hxl : (wordsP ts ++ [r]).length = k + 1 := by
        have := HN.out
        simp [wordsP]
        omega
      have OW2 : w2.ownsRow w.heap.size 9 1 (.slice (some ⟨g, 0, none⟩) (k + 1) cap) (k + 1) ((wordsP ts ++ [r]).map Value.string) := by simpa using OW.out
      obtain ⟨hcap, hcells⟩ := row_cells OW2 hxl
      have HJ := join_any g 0 cap (wordsP ts ++ [r]) w2 hcells hlt2 (by omega) (by omega) (words_len (by have := HN.out; omega) hrs)
      rw [hxl] at HJ
      have HJ := hide HJ
      clear hcells hxl OW2
      go_wp2_with fail
      refine HJ.out.mono ?_
      rintro e w3 ⟨rfl, hb3⟩
      have L3 := hide (L2.trans (hb3.mono L2.size))
      clear L2 hb3
      go_wp2
      go_ret
      exact ⟨by rw [← HRE.out, HB.out, List.map_append]; rfl, L3.out⟩
set_option maxRecDepth 100000 in
set_option maxHeartbeats 4000000 in
theorem putGone_any (a : Option Addr) (c : Nat) (ts : List (Int × Int)) (s : ByteArray) (w : World) (hn : ts.length ≤ 4) (hT : PowTab w) (ht : Tg w w.heap.size a ts) :
    Calls Tryd.prog 22 #[.agg #[.slice a ts.length c], .iface 81 (.agg #[.string s])] w fun e w' => e = .returned (.string (bodyS ts (restS s true))) ∧ Below w.heap.size w w' := by
  have hm : ∀ W : World, (method 274 81 (.agg #[.string s]) "loop.example/confluence/impl.rest").run Tryd.prog W = .ok (128, .agg #[.string s]) W := fun _ => by kernel_rfl
  obtain ⟨i0, hi0, hz0, hz1, hz2⟩ := info_parts word_info
  have I0 := hide hi0
  have I1 := hide hz0
  have I2 := hide hz1
  have I3 := hide hz2
  clear hi0 hz0 hz1 hz2
  have S0 := (Inv.start w).box 34 #[.slice a ts.length c]
  simp only [World.size_alloc] at S0
  have q0 := (S0.nth 0 rfl).one
  have HT := hide hT
  clear hT
  generalize hnn : ts.length = n at *
  have HN := hide hnn
  clear hnn
  go_enter Tryd.func22, Tryd.ntmps22
  go_wp2
  go_loopw [5, 11] (fun v i wr => ∃ k : Nat, k ≤ n ∧ i = .int .i64 (k : Int) ∧ wr.ownsRow w.heap.size 9 1 v k ((wordsP (ts.take k)).map Value.string) ∧ Below w.heap.size w wr) (fun _ i _ => n - (intOf i).toNat)
  case atStart => exact ⟨0, Nat.zero_le _, rfl, ⟨rfl, .inl ⟨rfl, rfl⟩⟩, S0.below⟩
  case round =>
    obtain ⟨k, hk, rfl, hO, hL⟩ := hrel
    clear S0 q0
    have hsz := hL.size
    have hvb : Hid (∀ g, u5.ownBlock = some g → w.heap.size ≤ g) := fun g hg => by
      rcases hO.2 with ⟨rfl, _⟩ | ⟨g', cap, cr, rfl, hg', _⟩
      · simp [Value.ownBlock] at hg
      · simp [Value.ownBlock] at hg; omega
    by_cases hlt : k < n
    · rcases ht with h0 | ⟨b, off, rfl, hb, hx⟩
      · have := HN.out; subst h0; simp at this; omega
      · obtain ⟨x, hxx⟩ : ∃ x, ts[k]? = some x := ⟨_, List.getElem?_eq_getElem (by have := HN.out; omega)⟩
        have HW := hide (wordsP_step hxx)
        have c0 := (hL.cell (p := ⟨b, off + k * 2, none⟩) hb).trans (hx k x hxx).1
        have c1 := (hL.cell (p := ⟨b, off + k * 2 + 1, none⟩) hb).trans (hx k x hxx).2
        obtain ⟨x1, x2⟩ := x
        simp only at c0 c1 HW
        have i1 : (0 : Int) ≤ (k : Int) := by omega
        have i2 : (k : Int) < (n : Int) := by omega
        have HO := hide hO
        have C1 := hide (fun W (h : Below w.heap.size w W) => implTagPut_any x1 x2 W (HT.out.on h))
        have hbx := ((Inv.start w).on hL).top.box 31 #[.int .i64 x1, .int .i64 x2]
        have q1 := (hbx.nth 0 rfl).two
        clear hx hO hxx
        go_wp2_with fail
        refine (C1.out _ hbx.below).mono ?_
        rintro e w1 ⟨rfl, hb1⟩
        have hL1 := (hbx.on hb1).below
        have HO1 := hide (World.ownsRow.kept (HO.out.alloc (.cells #[.int .i64 x1, .int .i64 x2] 31)) (grown_none (row := none) hb1) (Classical.em _))
        have hsz1 := hL1.size
        clear hbx hb1 q1 C1 HO
        generalize tagP x1 x2 = p at HW ⊢
        go_wp2_with (at_builtin; refine wpList_append_lies _ rfl (.tmp 15) (.tmp 18) 56 rfl w.heap.size 9 i0 _ 1 16 Tryd.underlying56 I0.out I1.out I2.out I3.out rfl (by omega) u5 k ((wordsP (ts.take k)).map Value.string) rfl (HO1.out.alloc _) ⟨w1.heap.size, 0, none⟩ 1 1 [.string (p)] rfl rfl (World.news_of_block (cs := #[.string (p)]) (by simpa using heap_alloc_new w1 (.cells #[.string (p)] 9))) (by simp [Value.oneCell']) (by omega) (by unfold maxLen; omega) (by omega) (by simp; omega) _ rfl ?_; intro g cap w2 hown hgrow hat hlt2; have OW := hide hown; have L2 := ((hL1.alloc hL1.size (.cells #[.string (p)] 9)).grown hgrow (by simp; omega) hvb.out); clear hown hgrow hat)
        exact ⟨⟨k + 1, by omega, by go_num, by rw [HW.out]; simpa using OW.out, L2⟩, by simp [intOf]; omega⟩
    · have hkn : k = n := by omega
      subst hkn
      have HE : Hid (wordsP (ts.take k) = wordsP ts) := by unfold Hid; rw [← HN.out, List.take_length]
      rw [HE.out] at hO
      have HO := hide hO
      have HR := hide (fun W => tombRest_any s W)
      clear hlt hO
      go_wp2_with fail
      refine (HR.out _).mono ?_
      rintro e w1 ⟨rfl, hb1⟩
      have hL1 := hL.trans (hb1.mono hL.size)
      have HO1 := hide (World.ownsRow.kept HO.out (grown_none (row := none) hb1) (Classical.em _))
      have hsz1 := hL1.size
      clear hb1 HO
      have hrs : (restS s true).size ≤ 1048577 := by
        show (1 : Nat) ≤ 1048577
        omega
      have HB : Hid (bodyS ts (restS s true) = ⟨(Lib.join ((wordsP ts ++ [restS s true]).map (·.data.toList)) [32]).toArray⟩) := rfl
      obtain ⟨r, hre⟩ : ∃ r, r = restS s true := ⟨_, rfl⟩
      rw [← hre] at hrs HB
      have HRE := hide hre
      rw [← hre]
      clear hre
      go_wp2_with (at_builtin; refine wpList_append_lies _ rfl (.tmp 21) (.tmp 24) 56 rfl w.heap.size 9 i0 _ 1 16 Tryd.underlying56 I0.out I1.out I2.out I3.out rfl (by omega) u5 k ((wordsP ts).map Value.string) rfl (HO1.out.alloc _) ⟨w1.heap.size, 0, none⟩ 1 1 [.string (r)] rfl rfl (World.news_of_block (cs := #[.string (r)]) (by simpa using heap_alloc_new w1 (.cells #[.string (r)] 9))) (by simp [Value.oneCell']) (by omega) (by unfold maxLen; omega) (by omega) (by simp; omega) _ rfl ?_; intro g cap w2 hown hgrow hat hlt2; have OW := hide hown; have L2 := ((hL1.alloc hL1.size (.cells #[.string (r)] 9)).grown hgrow (by simp; omega) hvb.out); clear hown hgrow hat)
      have hxl : (wordsP ts ++ [r]).length = k + 1 := by
        have := HN.out
        simp [wordsP]
        omega
      have OW2 : w2.ownsRow w.heap.size 9 1 (.slice (some ⟨g, 0, none⟩) (k + 1) cap) (k + 1) ((wordsP ts ++ [r]).map Value.string) := by simpa using OW.out
      obtain ⟨hcap, hcells⟩ := row_cells OW2 hxl
      have HJ := join_any g 0 cap (wordsP ts ++ [r]) w2 hcells hlt2 (by omega) (by omega) (words_len (by have := HN.out; omega) hrs)
      rw [hxl] at HJ
      have HJ := hide HJ
      clear hcells hxl OW2
      go_wp2_with fail
      refine HJ.out.mono ?_
      rintro e w3 ⟨rfl, hb3⟩
      have L3 := hide (L2.trans (hb3.mono L2.size))
      clear L2 hb3
      go_wp2
      go_ret
      exact ⟨by rw [← HRE.out, HB.out, List.map_append]; rfl, L3.out⟩
end Go.Proofs.YtoechhbjfejmjaaDoor
