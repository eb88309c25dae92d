/- Contracts of the functions that gather one client's records, in the program and in the model; lists of records that a call answers. Condition: at most 1048576 records. -/
import Derived.Test.YtjljaobmeaocjaaFormSpec
import Derived.Test.YtjljaobmeaocjaaDoneMark
import Derived.Deep.AppendLies
namespace Go.Proofs.Ytjljaobmeaocjaa
open Go.RowKit Go.Joins

/-- The cells of these records, one behind the other. -/
def flatD (ds : List D) : List Value := ds.flatMap fun x => [Value.int .i64 x.1, .int .i64 x.2.1, .int .i64 x.2.2.1, .int .i64 x.2.2.2.1, .int .i64 x.2.2.2.2]
theorem flatD_snoc (ds : List D) (x : D) : flatD (ds ++ [x]) = flatD ds ++ [.int .i64 x.1, .int .i64 x.2.1, .int .i64 x.2.2.1, .int .i64 x.2.2.2.1, .int .i64 x.2.2.2.2] := by simp [flatD]
theorem flatD_at : ∀ (ds : List D) (i : Nat) (x : D), ds[i]? = some x → (flatD ds)[i * 5]? = some (.int .i64 x.1) ∧ (flatD ds)[i * 5 + 1]? = some (.int .i64 x.2.1) ∧ (flatD ds)[i * 5 + 2]? = some (.int .i64 x.2.2.1) ∧ (flatD ds)[i * 5 + 3]? = some (.int .i64 x.2.2.2.1) ∧ (flatD ds)[i * 5 + 4]? = some (.int .i64 x.2.2.2.2)
  | [], i, x, h => by simp at h
  | y :: ds, 0, x, h => by
    simp at h
    subst h
    simp [flatD]
  | y :: ds, i + 1, x, h => by
    have := flatD_at ds i x (by simpa using h)
    have e : flatD (y :: ds) = .int .i64 y.1 :: .int .i64 y.2.1 :: .int .i64 y.2.2.1 :: .int .i64 y.2.2.2.1 :: .int .i64 y.2.2.2.2 :: flatD ds := by simp [flatD]
    rw [e, show (i + 1) * 5 = i * 5 + 1 + 1 + 1 + 1 + 1 by omega]
    exact this
theorem flatD_len (ds : List D) : (flatD ds).length = ds.length * 5 := by
  induction ds with
  | nil => rfl
  | cons y ds ih =>
    have e : flatD (y :: ds) = .int .i64 y.1 :: .int .i64 y.2.1 :: .int .i64 y.2.2.1 :: .int .i64 y.2.2.2.1 :: .int .i64 y.2.2.2.2 :: flatD ds := by simp [flatD]
    rw [e]
    simp [ih]
    omega

/-- A slice that reads as these records: none at all, or in a block of its own from B on and below U. -/
def ResD (w : World) (B U : Nat) (A : Option Addr) (rs : List D) : Prop :=
  (A = none ∧ rs = []) ∨ ∃ (g : Nat) (T : TypeId) (cur : Array Value), A = some ⟨g, 0, none⟩ ∧ B ≤ g ∧ g < U ∧ Blk w g T cur ∧ rs.length * 5 ≤ cur.size ∧ ∀ i x, rs[i]? = some x → DoneAt cur i x
theorem ResD.keep {w w' : World} {B U : Nat} {A : Option Addr} {rs : List D} {row : Option Nat} (h : ResD w B U A rs) (hg : w.grownBy w' row) (hr : ∀ g, row = some g → g < B ∨ U ≤ g) : ResD w' B U A rs := by
  rcases h with h | ⟨g, T, cur, rfl, hB, hU, hb, hs, hc⟩
  · exact .inl h
  · exact .inr ⟨g, T, cur, rfl, hB, hU, hb.kept hg (by intro e; have := hr g e; omega), hs, hc⟩
theorem ResD.on {w w' : World} {B U : Nat} {A : Option Addr} {rs : List D} (h : ResD w B U A rs) (hb : Below w.heap.size w w') : ResD w' B U A rs := h.keep (row := none) (grown_none hb) (by simp)
theorem ResD.dg {w : World} {B U : Nat} {A : Option Addr} {rs : List D} (h : ResD w B U A rs) : Dg w w.heap.size A rs := by
  rcases h with ⟨_, h⟩ | ⟨g, T, cur, rfl, _, _, hb, _, hc⟩
  · exact .inl h
  · exact Dg.of hb hb.inside hc
theorem ResD.of {w : World} {B U g : Nat} {T : TypeId} {cur : Array Value} {rs : List D} (hB : B ≤ g) (hU : g < U) (hb : Blk w g T cur) (hs : rs.length * 5 ≤ cur.size) (hc : ∀ i x, rs[i]? = some x → DoneAt cur i x) : ResD w B U (some ⟨g, 0, none⟩) rs :=
  .inr ⟨g, T, cur, rfl, hB, hU, hb, hs, hc⟩
/-- What is owned by append's laws, as an answer. -/
theorem resD_owns {w : World} {B : Nat} {v : Value} {rs : List D} (h : w.ownsRow B 53 5 v rs.length (flatD rs)) : ∃ A cap, v = .slice A rs.length cap ∧ ResD w B w.heap.size A rs := by
  rcases h.2 with ⟨rfl, h0⟩ | ⟨g, cap, cur, rfl, hB, hb, hn, _, hs, ht⟩
  · have : rs = [] := List.length_eq_zero_iff.1 h0
    subst this
    exact ⟨none, 0, rfl, .inl ⟨rfl, rfl⟩⟩
  · have hb' : Blk w g 53 cur := hb
    refine ⟨some ⟨g, 0, none⟩, cap, rfl, ResD.of hB hb'.inside hb' (by omega) fun i x hx => ?_⟩
    have hi := (List.getElem?_eq_some_iff.1 hx).1
    obtain ⟨g0, g1, g2, g3, g4⟩ := flatD_at rs i x hx
    rw [← ht] at g0 g1 g2 g3 g4
    rw [List.getElem?_take_of_lt (by omega)] at g0 g1 g2 g3 g4
    exact ⟨by simpa using g0, by simpa using g1, by simpa using g2, by simpa using g3, by simpa using g4⟩

/-- An answer that is a list of records. -/
def AnswerD (w : World) (rs : List D) (e : Ending) (w' : World) : Prop :=
  ∃ (A : Option Addr) (cap : Nat), e = .returned (.slice A rs.length cap) ∧ ResD w' w.heap.size w'.heap.size A rs ∧ Below w.heap.size w w'

/-- What one client did. -/
def onlyD (s : Int) (ds : List D) : List D := ds.filter fun x => x.1 == s
theorem onlyD_in {s : Int} {ds : List D} {k : Nat} {x : D} (hx : ds[k]? = some x) (h : (x.1 == s) = true) : onlyD s (ds.take (k + 1)) = onlyD s (ds.take k) ++ [x] := by
  unfold onlyD
  rw [List.take_add_one, hx]
  simp [h]
theorem onlyD_out {s : Int} {ds : List D} {k : Nat} {x : D} (hx : ds[k]? = some x) (h : (x.1 == s) = false) : onlyD s (ds.take (k + 1)) = onlyD s (ds.take k) := by
  unfold onlyD
  rw [List.take_add_one, hx]
  simp [h]
theorem onlyD_le (s : Int) (ds : List D) (k : Nat) : (onlyD s (ds.take k)).length ≤ k := by
  have := List.length_filter_le (fun x : D => x.1 == s) (ds.take k)
  unfold onlyD
  have := List.length_take_le k ds
  omega
def resOnly (s : Int) (ds : List D) : List D := if formB ds = true then onlyD s ds else []
theorem resOnly_len (s : Int) (ds : List D) : (resOnly s ds).length ≤ ds.length := by
  unfold resOnly onlyD
  split
  · exact List.length_filter_le _ _
  · simp

/-- One record more. -/
theorem owns_in {w : World} {B : Nat} {v : Value} {s : Int} {ds : List D} {k : Nat} {x : D} {cap g : Nat} (hx : ds[k]? = some x) (h : (x.1 == s) = true)
    (ho : w.ownsRow B 53 5 (.slice (some ⟨g, 0, none⟩) ((onlyD s (ds.take k)).length + 1) cap) ((onlyD s (ds.take k)).length + 1) (flatD (onlyD s (ds.take k)) ++ [.int .i64 x.1, .int .i64 x.2.1, .int .i64 x.2.2.1, .int .i64 x.2.2.2.1, .int .i64 x.2.2.2.2])) (hv : v = .slice (some ⟨g, 0, none⟩) ((onlyD s (ds.take k)).length + 1) cap) :
    w.ownsRow B 53 5 v (onlyD s (ds.take (k + 1))).length (flatD (onlyD s (ds.take (k + 1)))) := by
  rw [onlyD_in hx h, flatD_snoc, List.length_append, hv]
  exact ho

set_option maxRecDepth 100000 in
set_option maxHeartbeats 4000000 in
theorem implGuardOnly_any (a : Option Addr) (c : Nat) (ds : List D) (s : Int) (w : World) (hn : ds.length ≤ 1048576) (hd : Dg w w.heap.size a ds) :
    Calls Try.prog 27 #[.slice a ds.length c, .int .i64 s] w (AnswerD w (resOnly s ds)) := by
  have C0 := hide (wellFormed_any a c ds w hn hd)
  obtain ⟨i0, hi0, hz0, hz1, hz2⟩ := info_parts done_info
  have I0 := hide hi0
  have I1 := hide hz0
  have I2 := hide hz1
  have I3 := hide hz2
  clear hi0 hz0 hz1 hz2
  cases hf : formB ds
  · have HF := hide hf
    have HR : Hid (resOnly s ds = []) := by unfold Hid resOnly; rw [hf]; rfl
    clear hf
    go_enter Try.func27, Try.ntmps27
    go_wp2_with fail
    refine C0.out.mono ?_
    rintro e w1 ⟨rfl, hb1⟩
    rw [HF.out]
    go_wp2
    go_ret
    exact ⟨none, 0, by rw [HR.out]; rfl, .inl ⟨rfl, HR.out⟩, hb1⟩
  · have HF := hide hf
    have HR : Hid (resOnly s ds = onlyD s ds) := by unfold Hid resOnly; rw [hf]; rfl
    clear hf
    generalize hnn : ds.length = n at *
    have HN := hide hnn
    clear hnn
    go_enter Try.func27, Try.ntmps27
    go_wp2_with fail
    refine C0.out.mono ?_
    rintro e w1 ⟨rfl, hb1⟩
    rw [HF.out]
    go_wp2
    go_loopw [5, 13] (fun v i wr => ∃ k : Nat, k ≤ n ∧ i = .int .i64 (k : Int) ∧ wr.ownsRow w.heap.size 53 5 v (onlyD s (ds.take k)).length (flatD (onlyD s (ds.take k))) ∧ Below w.heap.size w wr) (fun _ i _ => n - (intOf i).toNat)
    case atStart => exact ⟨0, Nat.zero_le _, rfl, ⟨by simp [onlyD, flatD], .inl ⟨rfl, rfl⟩⟩, hb1⟩
    case round =>
      obtain ⟨k, hk, rfl, hO, hL⟩ := hrel
      by_cases hlt : k < n
      · rcases hd with h0 | ⟨b, off, rfl, hb, hx⟩
        · have := HN.out; subst h0; simp at this; omega
        · have hkl : k < ds.length := by have := HN.out; omega
          have F0 := (hx k _ (List.getElem?_eq_getElem hkl)).on hb hL
          have HX := hide (List.getElem?_eq_getElem hkl)
          generalize ds[k] = x at F0 HX
          obtain ⟨x0, x1, x2, x3, x4⟩ := x
          have i1 : (0 : Int) ≤ (k : Int) := by omega
          have i2 : (k : Int) < (n : Int) := by omega
          have hle := onlyD_le s ds k
          have HO := hide hO
          have hsz := hL.size
          clear hx hO
          cases c0 : (x0 == s)
          · have HE := hide (onlyD_out HX.out c0)
            go_wp2
            exact ⟨⟨k + 1, by omega, by go_num, by rw [HE.out]; exact HO.out.alloc _, hL.alloc hL.size _⟩, by simp [intOf]; omega⟩
          · have hvb : Hid (∀ g, u5.ownBlock = some g → w.heap.size ≤ g) := fun g hg => by
              rcases HO.out.2 with ⟨rfl, _⟩ | ⟨g', cap, cr, rfl, hg', _⟩
              · simp [Value.ownBlock] at hg
              · simp [Value.ownBlock] at hg; omega
            have HC0 := hide c0
            generalize hm : (onlyD s (ds.take k)).length = m at hle HO
            have HM := hide hm
            clear hm
            go_wp2_with (at_builtin; refine wpList_append_lies _ rfl (.tmp 21) (.tmp 23) 25 rfl w.heap.size 53 i0 _ 5 40 Try.underlying25 I0.out I1.out I2.out I3.out rfl (by omega) u5 m _ rfl ((HO.out.alloc _).alloc _) ⟨wr.heap.size + 1, 0, none⟩ 1 1 [.int .i64 x0, .int .i64 x1, .int .i64 x2, .int .i64 x3, .int .i64 x4] rfl rfl (World.news_of_block (cs := doneC x0 x1 x2 x3 x4) (by simpa using heap_alloc_new (wr.alloc (.cells (doneC x0 x1 x2 x3 x4) 53)) (.cells (doneC x0 x1 x2 x3 x4) 53))) (by simp [Value.oneCell']) (by omega) (by unfold maxLen; omega) (by omega) (by simp; omega) _ rfl ?_; intro g cap w2 hown hgrow hat hlt2; have OW := hide hown; have L2 := (((hL.alloc hL.size (.cells (doneC x0 x1 x2 x3 x4) 53)).alloc (by simp; omega) (.cells (doneC x0 x1 x2 x3 x4) 53)).grown hgrow (by simp; omega) hvb.out); clear hown hgrow)
            exact ⟨⟨k + 1, by omega, by go_num, owns_in HX.out HC0.out (by rw [HM.out]; exact OW.out) (by rw [HM.out]), L2⟩, by simp [intOf]; omega⟩
      · have hkn : k = n := by omega
        subst hkn
        clear hlt
        have HE : Hid (onlyD s (ds.take k) = resOnly s ds) := by
          unfold Hid
          rw [HR.out, ← HN.out, List.take_length]
        rw [HE.out] at hO
        obtain ⟨A, cap, rfl, hR⟩ := resD_owns hO
        clear hO
        go_wp2
        go_ret
        exact ⟨A, cap, rfl, hR, hL⟩

set_option maxRecDepth 100000 in
set_option maxHeartbeats 4000000 in
theorem l11Only_any (a : Option Addr) (c : Nat) (ds : List D) (s : Int) (w : World) (hn : ds.length ≤ 1048576) (hd : Dg w w.heap.size a ds) :
    Calls Try.prog 66 #[.slice a ds.length c, .int .i64 s] w (AnswerD w (onlyD s ds)) := by
  obtain ⟨i0, hi0, hz0, hz1, hz2⟩ := info_parts done_info
  have I0 := hide hi0
  have I1 := hide hz0
  have I2 := hide hz1
  have I3 := hide hz2
  clear hi0 hz0 hz1 hz2
  have O0 : (w.alloc (.cells #[] 53)).ownsRow w.heap.size 53 5 (.slice (some ⟨w.heap.size, 0, none⟩) 0 0) 0 [] := ⟨rfl, .inr ⟨w.heap.size, 0, #[], rfl, Nat.le_refl _, Blk.made w _ _, Nat.le_refl _, Nat.zero_le _, rfl, rfl⟩⟩
  have HO0 := hide O0
  clear O0
  generalize hnn : ds.length = n at *
  have HN := hide hnn
  clear hnn
  go_enter Try.func66, Try.ntmps66
  go_wp2
  go_loopw [5, 6] (fun v i wr => ∃ k : Nat, k ≤ n ∧ i = .int .i64 (k : Int) ∧ wr.ownsRow w.heap.size 53 5 v (onlyD s (ds.take k)).length (flatD (onlyD s (ds.take k))) ∧ Below w.heap.size w wr) (fun _ i _ => n - (intOf i).toNat)
  case atStart => exact ⟨0, Nat.zero_le _, rfl, HO0.out, below_alloc1 w _⟩
  case round =>
    obtain ⟨k, hk, rfl, hO, hL⟩ := hrel
    by_cases hlt : k < n
    · rcases hd with h0 | ⟨b, off, rfl, hb, hx⟩
      · have := HN.out; subst h0; simp at this; omega
      · have hkl : k < ds.length := by have := HN.out; omega
        have F0 := (hx k _ (List.getElem?_eq_getElem hkl)).on hb hL
        have HX := hide (List.getElem?_eq_getElem hkl)
        generalize ds[k] = x at F0 HX
        obtain ⟨x0, x1, x2, x3, x4⟩ := x
        have i1 : (0 : Int) ≤ (k : Int) := by omega
        have i2 : (k : Int) < (n : Int) := by omega
        have hle := onlyD_le s ds k
        have HO := hide hO
        have hsz := hL.size
        clear hx hO
        cases c0 : (x0 == s)
        · have HE := hide (onlyD_out HX.out c0)
          go_wp2
          exact ⟨⟨k + 1, by omega, by go_num, by rw [HE.out]; exact HO.out, hL⟩, by simp [intOf]; omega⟩
        · have hvb : Hid (∀ g, u5.ownBlock = some g → w.heap.size ≤ g) := fun g hg => by
            rcases HO.out.2 with ⟨rfl, _⟩ | ⟨g', cap, cr, rfl, hg', _⟩
            · simp [Value.ownBlock] at hg
            · simp [Value.ownBlock] at hg; omega
          have HC0 := hide c0
          generalize hm : (onlyD s (ds.take k)).length = m at hle HO
          have HM := hide hm
          clear hm
          go_wp2_with (at_builtin; refine wpList_append_lies _ rfl (.tmp 21) (.tmp 26) 25 rfl w.heap.size 53 i0 _ 5 40 Try.underlying25 I0.out I1.out I2.out I3.out rfl (by omega) u5 m _ rfl (HO.out.alloc _) ⟨wr.heap.size, 0, none⟩ 1 1 [.int .i64 x0, .int .i64 x1, .int .i64 x2, .int .i64 x3, .int .i64 x4] rfl rfl (World.news_of_block (cs := doneC x0 x1 x2 x3 x4) (by simpa using heap_alloc_new wr (.cells (doneC x0 x1 x2 x3 x4) 53))) (by simp [Value.oneCell']) (by omega) (by unfold maxLen; omega) (by omega) (by simp; omega) _ rfl ?_; intro g cap w2 hown hgrow hat hlt2; have OW := hide hown; have L2 := ((hL.alloc hL.size (.cells (doneC x0 x1 x2 x3 x4) 53)).grown hgrow (by simp; omega) hvb.out); clear hown hgrow)
          exact ⟨⟨k + 1, by omega, by go_num, owns_in HX.out HC0.out (by rw [HM.out]; exact OW.out) (by rw [HM.out]), L2⟩, by simp [intOf]; omega⟩
    · have hkn : k = n := by omega
      subst hkn
      clear hlt
      have HE : Hid (onlyD s (ds.take k) = onlyD s ds) := by
        unfold Hid
        rw [← HN.out, List.take_length]
      rw [HE.out] at hO
      obtain ⟨A, cap, rfl, hR⟩ := resD_owns hO
      clear hO
      go_wp2
      go_ret
      exact ⟨A, cap, rfl, hR, hL⟩

set_option maxHeartbeats 1000000 in
theorem specGuardOnly_any (a : Option Addr) (c : Nat) (ds : List D) (s : Int) (w : World) (hn : ds.length ≤ 1048576) (hd : Dg w w.heap.size a ds) :
    Calls Try.prog 26 #[.slice a ds.length c, .int .i64 s] w (AnswerD w (resOnly s ds)) := by
  have C0 := hide (l6Form_any a c ds w hn hd)
  have C1 := hide (fun W (h : Below w.heap.size w W) => l11Only_any a c ds s W hn ((hd.on h).up h.size))
  cases hf : formB ds
  · have HF := hide hf
    have HR : Hid (resOnly s ds = []) := by unfold Hid resOnly; rw [hf]; rfl
    clear hf C1
    go_enter Try.func26, Try.ntmps26
    go_wp2_with fail
    refine C0.out.mono ?_
    rintro e w1 ⟨rfl, hb1⟩
    rw [HF.out]
    go_wp2
    go_ret
    exact ⟨none, 0, by rw [HR.out]; rfl, .inl ⟨rfl, HR.out⟩, hb1⟩
  · have HF := hide hf
    have HR : Hid (resOnly s ds = onlyD s ds) := by unfold Hid resOnly; rw [hf]; rfl
    clear hf
    go_enter Try.func26, Try.ntmps26
    go_wp2_with fail
    refine C0.out.mono ?_
    rintro e w1 ⟨rfl, hb1⟩
    rw [HF.out]
    go_wp2_with fail
    refine (C1.out w1 hb1).mono ?_
    rintro e w2 ⟨A, cap, rfl, hR, hb2⟩
    have hl := hb1.trans (hb2.mono hb1.size)
    have hz := hb1.size
    go_wp2
    go_ret
    refine ⟨A, cap, by rw [HR.out]; rfl, ?_, hl⟩
    rw [HR.out]
    rcases hR with h | ⟨g, T, cur, h1, h2, h3, h4, h5, h6⟩
    · exact .inl h
    · exact .inr ⟨g, T, cur, h1, by omega, h3, h4, h5, h6⟩

/-- What marking a list of records leaves: the marks; only its own block has turned. -/
def MarkedRD (w : World) (B U : Nat) (A : Option Addr) (n : Nat) (k : Int) (e : Ending) (w' : World) : Prop :=
  ∃ row : Option Nat, e = .returned (.int .i64 (k + 5 * (n : Int))) ∧ ResD w' B U A (marksD k n) ∧ w.grownBy w' row ∧ ∀ g, row = some g → B ≤ g ∧ g < U
set_option maxHeartbeats 1000000 in
theorem markDoneS_nil (a : Option Addr) (c : Nat) (k : Int) (w : World) :
    Calls Try.prog 28 #[.slice a 0 c, .int .i64 k] w fun e w' => e = .returned (.int .i64 k) ∧ w = w' := by
  go_enter Try.func28, Try.ntmps28
  go_wp2
  go_loop [1, 5] (fun v i => v = .int .i64 k ∧ i = .int .i64 0) (fun _ _ => 0)
  case atStart => exact ⟨rfl, rfl⟩
  case round =>
    obtain ⟨rfl, rfl⟩ := hrel
    go_wp2
    go_ret
    exact ⟨rfl, rfl⟩
theorem markResD_any (A : Option Addr) (B U c : Nat) (rs : List D) (k : Int) (w : World) (hR : ResD w B U A rs) (hn : rs.length ≤ 1048576) (hk0 : 0 ≤ k) (hk : k ≤ 1000000000) :
    Calls Try.prog 28 #[.slice A rs.length c, .int .i64 k] w (MarkedRD w B U A rs.length k) := by
  rcases hR with ⟨rfl, rfl⟩ | ⟨g, T, cur, rfl, hB, hU, hb, hs, _⟩
  · exact (markDoneS_nil none c k w).mono fun e w' ⟨he, hw⟩ => ⟨none, by simpa using he, .inl ⟨rfl, rfl⟩, by rw [← hw]; exact World.grownBy.refl _ _, by simp⟩
  · exact (markDoneS_any g c rs.length T cur k w hb hs hn hk0 hk).mono fun e w' ⟨he, ⟨cur', hb', hs', hc'⟩, hG⟩ =>
      ⟨some g, he, ResD.of hB hU hb' (by rw [marksD_len, hs']; exact hs) hc', hG, fun g' e => by injection e; omega⟩
end Go.Proofs.Ytjljaobmeaocjaa
