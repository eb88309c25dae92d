/- Contract of the draw of a store. Condition: as in Draw. -/
import Derived.Test.YtjnloillcgeodaaGreatJDrawVers3
import Derived.Test.YtjnloillcgeodaaGreatJStoreAdd
import Derived.Test.YtjnloillcgeodaaGreatJChainPure
import Derived.Test.YtjnloillcgeodaaGreatJFall
namespace Go.Proofs.YtjnloillcgeodaaGreat
open Go.RowKit Go.Joins
attribute [local go_sem ↓] Go.wp_at_zero Go.wp_at_succ

/-- Versions of few tags and short texts. -/
def FewV (us : List V) : Prop := ∀ v ∈ us, v.ts.length ≤ 4 ∧ v.s.size ≤ 16
theorem fewV_keep {us us' : List V} {v : V} (h : FewV us) (hv : v.ts.length ≤ 4 ∧ v.s.size ≤ 16) (hl : us'.length = us.length) (hk : Like us' (keepL us v)) : FewV us' := by
  intro x hx
  obtain ⟨i, hi⟩ := List.getElem?_of_mem hx
  have hlen : i < (keepL us v).length := by rw [keepL_len, ← hl]; exact (List.getElem?_eq_some_iff.1 hi).1
  obtain ⟨y, hy⟩ : ∃ y, (keepL us v)[i]? = some y := ⟨_, List.getElem?_eq_getElem hlen⟩
  obtain ⟨_, _, _, e4, e5, _⟩ := hk i x y hi hy
  have key : y ∈ us ∨ y = v := by
    have hm := List.mem_of_getElem? hy
    unfold keepL at hm
    split at hm
    · split at hm
      · rcases List.mem_or_eq_of_mem_set hm with h1 | h1
        · exact .inl h1
        · exact .inr h1
      · exact .inl hm
    · exact .inl hm
  rw [e4, e5]
  rcases key with hm | rfl
  · exact h y hm
  · exact hv
theorem grown_turn {w wr w2 : World} {g G : Nat} (h : w.grownBy wr (some g)) (ht : Turn (fun x => x = G) wr w2) (hG : w.heap.size ≤ G) : w.grownBy w2 (some g) :=
  ⟨ht.os.trans h.os, ht.tape.trans h.tape, ht.output.trans h.output, Nat.le_trans h.size ht.size, fun i hi hn => (ht.block i (Nat.lt_of_lt_of_le hi h.size) (by omega)).trans (h.block i hi hn)⟩
theorem Rd.turned {w wr w2 : World} {g G : Nat} {a : Option Addr} {len cap m : Nat} (h : Rd wr g a len cap m) (hb : Bytes w g a len) (hw : w.grownBy w2 (some g)) (ht : Turn (fun x => x = G) wr w2) (hG : g ≠ G) : Rd w2 g a len cap m := by
  obtain ⟨⟨p, p1, p2, p3⟩, h1, h2, h3, h4⟩ := h
  exact ⟨⟨p, p1, p2, p3.turned ht hG⟩, h1, h2, h3, hb.kept hw⟩

/-- What the draw of a store holds between its steps. -/
structure DS (w : World) (g : Nat) (ra : Option Addr) (len cap mm pb G : Nat) (us : List V) (wr : World) : Prop where
  res : Blk wr w.heap.size 35 #[.slice none 0 0]
  box : Blk wr pb 35 #[.slice (some ⟨G, 0, none⟩) 4 4]
  row : ∃ cur, ORow wr (w.heap.size + 1) wr.heap.size G us cur
  four : us.length = 4
  few : FewV us
  grown : w.grownBy wr (some g)
  rd : Rd wr g ra len cap mm
theorem store_ne_ver : (35 : TypeId) ≠ 51 := by decide
theorem store_ne_tag2 : (35 : TypeId) ≠ 49 := by decide
section
variable {w wr w2 : World} {g len cap mm pb G : Nat} {ra : Option Addr} {us : List V}
theorem DS.lo (h : DS w g ra len cap mm pb G us wr) : w.heap.size < G := by
  obtain ⟨cur, hr⟩ := h.row
  have := hr.lo
  omega
theorem DS.ne (h : DS w g ra len cap mm pb G us wr) : pb ≠ G := by
  intro e
  obtain ⟨cur, hr⟩ := h.row
  exact store_ne_ver (blk_one (e ▸ h.box) hr.blk)
theorem DS.kept (h : DS w g ra len cap mm pb G us wr) (hgw : g < w.heap.size) (hp : w.heap.size < pb) (hg : wr.grownBy w2 (some g)) {mm' : Nat} (hr : Rd w2 g ra len cap mm') : DS w g ra len cap mm' pb G us w2 := by
  obtain ⟨cur, hrow⟩ := h.row
  exact ⟨h.res.kept hg (by intro e; injection e; omega), h.box.kept hg (by intro e; injection e; omega), ⟨cur, (hrow.turned (P := fun x => x = g) (Turn.of hg (fun x e => by injection e with e; exact e.symm)) (fun x h1 h2 e => by omega)).wide hg.size⟩, h.four, h.few, h.grown.trans hg, hr⟩
theorem DS.drew (h : DS w g ra len cap mm pb G us wr) (hgw : g < w.heap.size) (hp : w.heap.size < pb) : DS w g ra len cap mm pb G us wr.drew :=
  h.kept hgw hp (grown_none (Below.refl _ _).drew) (h.rd.on (Below.refl _ _).drew)
/-- A version has come. -/
theorem DS.added {us' : List V} {cur' : Array Value} (hgw : g < w.heap.size) (hby : Bytes w g ra len) (h : DS w g ra len cap mm pb G us wr) (ht : Turn (fun x => x = G) wr w2) (hr : ORow w2 (w.heap.size + 1) w2.heap.size G us' cur') (hl : us'.length = us.length) (hf : FewV us') : DS w g ra len cap mm pb G us' w2 := by
  have hlo := h.lo
  have hne := h.ne
  have hgr := grown_turn h.grown ht (by omega)
  exact ⟨h.res.turned ht (by omega), h.box.turned ht hne, ⟨cur', hr⟩, hl.trans h.four, hf, hgr, h.rd.turned hby hgr ht (by omega)⟩
/-- The box is written anew, as it was. -/
theorem DS.same (h : DS w g ra len cap mm pb G us wr) (hby : Bytes w g ra len) (hgw : g < w.heap.size) (hp : w.heap.size < pb) : DS w g ra len cap mm pb G us (wr.setCell ⟨pb, 0, none⟩ (.slice (some ⟨G, 0, none⟩) 4 4)) := by
  obtain ⟨cur, hrow⟩ := h.row
  have hne := h.ne
  have ht : Turn (fun x => x = pb) wr (wr.setCell ⟨pb, 0, none⟩ (.slice (some ⟨G, 0, none⟩) 4 4)) := (Turn.refl (fun x => x = pb) wr).set (p := ⟨pb, 0, none⟩) rfl _
  refine ⟨h.res.aside (by simp only; omega) _, h.box.put 0 _, ⟨cur, hrow.blk.aside (by simp only; exact fun e => hne e.symm) _, hrow.lo, by simpa [World.setCell] using hrow.hi, hrow.size, hrow.at', fun i v hi => ?_, hrow.apart⟩, h.four, h.few, grown_set h.grown (p := ⟨pb, 0, none⟩) (by simp only; omega) _, h.rd.set hby hgw h.grown (p := ⟨pb, 0, none⟩) (by simp only; omega) _⟩
  rcases hrow.own i v hi with q | ⟨x, cx, q1, q2, q3, q4, q5, q6⟩
  · exact .inl q
  · exact .inr ⟨x, cx, q1, q2, by simpa [World.setCell] using q3, q4.turned ht (fun e => store_ne_tag2 (blk_one h.box (e ▸ q4))), q5, q6⟩
end

/-- What the draw of a store leaves. -/
def DrawnS4 (w : World) (g : Nat) (ra : Option Addr) (len cap m d : Nat) (e : Ending) (w' : World) : Prop :=
  ∃ (G : Nat) (us : List V) (cur : Array Value), e = .returned (.agg #[.slice (some ⟨G, 0, none⟩) 4 4]) ∧ us.length = 4 ∧ FewV us ∧ ORow w' (w.heap.size + 1) w'.heap.size G us cur ∧ w.grownBy w' (some g) ∧ Rd w' g ra len cap (m + d)

set_option maxRecDepth 100000 in
set_option maxHeartbeats 4000000 in
theorem l20Store_any (w : World) (g : Nat) (a : Option Addr) (len cap m : Nat) (h : Rd w g a len cap m) (hm : m + 200 ≤ 1000000) :
    Calls Tryz.prog 91 #[.pointer (some ⟨g, 0, none⟩)] w (DrawnS4 w g a len cap m 200) := by
  have hgw := h.inside
  have HBY := hide h.bytes
  have B0 := Blk.made w 35 #[.slice none 0 0]
  have L0 := below_alloc1 w (.cells #[.slice none 0 0] 35)
  go_enter Tryz.func91, Tryz.ntmps91
  go_wp2_with fail
  refine (l2New_any _).mono ?_
  rintro e w1 ⟨G, rfl, hG, hB1, hb1⟩
  simp only [World.size_alloc] at hG
  have L1 := L0.trans (hb1.mono L0.size)
  have LA := below_alloc1 w1 (.cells #[.slice (some ⟨G, 0, none⟩) 4 4] 35)
  have z1 : w.heap.size + 1 ≤ w1.heap.size := by have := hb1.size; simpa using this
  have hpb : w.heap.size < w1.heap.size := by omega
  have HD : Hid (DS w g a len cap m w1.heap.size G [v0, v0, v0, v0] (w1.alloc (.cells #[.slice (some ⟨G, 0, none⟩) 4 4] 35))) :=
    ⟨(B0.on hb1).on LA, Blk.made _ _ _, ⟨zero24, (hB1.on LA), hG, Nat.lt_of_lt_of_le hB1.inside LA.size, by simp, zero24_at, fun i v hi => .inl (by rw [v0_mem hi]; rfl), fun i j v v' _ hi _ hn => by rw [v0_mem hi] at hn; exact absurd rfl hn⟩, rfl, fun v hv => by
      have : v = v0 := by simpa using hv
      rw [this]; exact ⟨Nat.zero_le _, (by decide : (ByteArray.mk #[]).size ≤ 16)⟩, grown_none (L1.trans (LA.mono L1.size)), (h.on L1).on LA⟩
  clear B0 L0 h hB1 hb1 L1 LA z1 hG
  go_wp2_with fail
  generalize w1.alloc (.cells #[.slice (some ⟨G, 0, none⟩) 4 4] 35) = W1 at HD ⊢
  obtain ⟨pb, epb⟩ : ∃ pb, pb = w1.heap.size := ⟨_, rfl⟩
  rw [← epb] at HD hpb ⊢
  clear epb
  refine (pick_any _ g a len cap _ _ HD.out.rd (by omega) (by omega)).mono ?_
  rintro e w2 ⟨x, hx, rfl, hg2, h2⟩
  have HD2 := hide (HD.out.kept hgw hpb hg2 h2)
  have hx0 := hx.1
  have hx1 := hx.2 (by omega)
  obtain ⟨xn, rfl⟩ := Int.eq_ofNat_of_zero_le hx0
  have hxn : xn ≤ 6 := by omega
  clear HD hg2 h2 hx hx0 hx1
  go_wp2
  go_loopw [4] (fun i wr => ∃ (n : Nat) (us : List V), n ≤ 6 ∧ i = .int .i64 (n : Int) ∧ Hid (DS w g a len cap (m + 1 + 20 * (6 - n)) pb G us wr)) (fun i _ => (intOf i).toNat)
  case atStart => exact ⟨xn, _, hxn, rfl, by
    have := HD2.out
    exact ⟨this.res, this.box, this.row, this.four, this.few, this.grown, this.rd.more _ (by omega) (by omega)⟩⟩
  case round =>
    obtain ⟨n, us, hn, rfl, HP⟩ := hrel
    clear HD2
    by_cases hlt : 0 < n
    · have i1 : (0 : Int) < (n : Int) := by omega
      have D1 := HP.out.drew hgw hpb
      clear HP
      go_wp2_with fail
      refine wp_region_noPanic ?_
      refine wp_region_held_drew (S := (fun w' => w'.cell? ⟨pb, 0, none⟩ = some (.slice (some ⟨G, 0, none⟩) 4 4) ∧ Blk w' pb 35 #[.slice (some ⟨G, 0, none⟩) 4 4])) (by kernel_rfl) (by exact ⟨D1.box.at 0, D1.box⟩) (fun hHeld => ?_)
      refine take_run 0 (some 12) (v := ?_) rfl rfl (by kernel_rfl) (by kernel_rfl) (by kernel_rfl) (fun _ _ _ h => h) (by rfl) ?_ hHeld ?_
      rotate_left
      · ((intro w hSw); (try dsimp only at hSw); go_simp <;> with_reducible rfl)
      simp only [Act.put, List.setIfInBounds_toArray, List.set_cons_zero, List.set_cons_succ]
      refine take_run 1 (some 13) (v := ?_) rfl rfl (by kernel_rfl) (by kernel_rfl) (by kernel_rfl) (fun _ _ _ h => h) (by rfl) ?_ hHeld ?_
      rotate_left
      · ((intro w hSw); (try dsimp only at hSw); go_simp <;> with_reducible rfl)
      simp only [Act.put, List.setIfInBounds_toArray, List.set_cons_zero, List.set_cons_succ]
      refine take_one 2 (by kernel_rfl) rfl (fun K hK => ?_)
      go_simp
      (refine (l20Ver_any _ g a len cap _ D1.rd (by omega)).mono ?_; rintro e w3 ⟨k, t, u, gb, ts, s, b, rfl, hk, hs, hF, hgb, hg3, h3⟩; have D2 := D1.kept hgw hpb hg3 h3; obtain ⟨kn, rfl⟩ := Int.eq_ofNat_of_zero_le hk.1; have hkn : kn < 4 := (by omega); clear hk; have hl4 := hF.len; have HF := hide hF; have HS := hide hs; clear hF hs)
      try go_wp2_with fail
      refine hK.out _ _ (by exact ⟨D2.box.at 0, D2.box⟩) (fun hHeld => ?_)
      clear hK K
      refine take_one 3 (by kernel_rfl) rfl (fun K hK => ?_)
      go_simp
      (obtain ⟨cur, hrow⟩ := D2.row; have CT := l2Add_any (w.heap.size + 1) w3.heap.size G 4 us cur ⟨(kn : Int), t, u, some ⟨gb, 0, none⟩, 4, ts, s, b⟩ kn w3 hrow (Nat.le_refl _) D2.four rfl hkn (by simp only; omega) (HF.out.past (lo := 0) (g := w3.heap.size) (Nat.zero_le _) (by have := HF.out.inside; omega)).tg; simp only [hl4] at CT; (with_reducible refine CT.mono ?_); clear CT; rintro e w4 ⟨us', cur', rfl, hl', hlike, hrow', hT⟩; have D3 := DS.added hgw HBY.out D2 hT hrow' hl' (fewV_keep D2.few ⟨by simp only; omega, HS.out⟩ hl' hlike); have k4 := D3.box.one)
      try go_wp2_with fail
      refine hK.out _ _ (by exact ⟨D3.box.at 0, D3.box⟩) (fun hHeld => ?_)
      clear hK K
      refine take_one 4 (by kernel_rfl) rfl (fun K hK => ?_)
      go_simp
      refine hK.out _ _ (by exact ⟨(D3.box.put 0 _).at 0, D3.box.put 0 _⟩) (fun hHeld => ?_)
      clear hK K
      refine wpAnyH_done (by kernel_rfl) ?_ _
      refine NoPanic.normal ?_
      have HD4 := hide (D3.same HBY.out hgw hpb)
      clear hHeld D1 D2 D3 k4 hg3 h3 hrow hrow' hT
      go_wp2
      have e1 : (n : Int) - 1 = ((n - 1 : Nat) : Int) := by omega
      refine ⟨⟨n - 1, us', by omega, by rw [e1], ?_⟩, by simp [intOf]; omega⟩
      have := HD4.out
      exact ⟨this.res, this.box, this.row, this.four, this.few, this.grown, this.rd.more _ (by omega) (by omega)⟩
    · have hn0 : n = 0 := by omega
      subst hn0
      clear hlt hn
      have D1 := HP.out
      have k1 := D1.box.one
      have k2 := D1.res.one
      have HD1 := hide D1
      clear D1
      go_wp2
      refine bodyPost_ret (v := .agg #[.slice (some ⟨G, 0, none⟩) 4 4]) (by simp [results, Tryz.results91, go_sem, k2]) rfl ?_
      obtain ⟨cur, hrow⟩ := HD1.out.row
      have hlo := HD1.out.lo
      exact ⟨G, us, cur, rfl, HD1.out.four, HD1.out.few, (hrow.turned (P := fun x => x = w.heap.size) ((Turn.refl (fun x => x = w.heap.size) _).set (p := ⟨w.heap.size, 0, none⟩) rfl _) (fun x h1 h2 e => by omega)).wide (by simp [World.setCell]), grown_set HD1.out.grown (p := ⟨w.heap.size, 0, none⟩) (Nat.le_refl _) _, (HD1.out.rd.set HBY.out hgw HD1.out.grown (p := ⟨w.heap.size, 0, none⟩) (Nat.le_refl _) _).more _ (by omega) hm⟩
end Go.Proofs.YtjnloillcgeodaaGreat
/- Contract of the draw of a store, valid or not. Condition: as in Draw. -/
namespace Go.Proofs.YtjnloillcgeodaaGreat
open Go.RowKit Go.Joins
attribute [local go_sem ↓] Go.wp_at_zero Go.wp_at_succ

/-- A slice that reads as these versions, all in blocks from lo on, and none in block g. -/
def VgIn (w : World) (lo g : Nat) (a : Option Addr) (vs : List V) : Prop :=
  ∃ b off : Nat, a = some ⟨b, off, none⟩ ∧ lo ≤ b ∧ b ≠ g ∧ b < w.heap.size ∧ ∀ i v, vs[i]? = some v → Six w b (off + i * 6) v ∧ (v.ts = [] ∨ PastIn w lo g v.a v.ts)
section
variable {w w' : World} {lo g : Nat} {a : Option Addr} {vs : List V}
theorem VgIn.vg (h : VgIn w lo g a vs) : Vg w w.heap.size a vs := by
  obtain ⟨b, off, ha, _, _, hb, hx⟩ := h
  refine .inr ⟨b, off, ha, hb, fun i v hi => ⟨(hx i v hi).1, ?_⟩⟩
  rcases (hx i v hi).2 with q | q
  · exact .inl q
  · exact q.tg
theorem VgIn.of (h : VgIn w lo g a vs) (hk : ∀ b o : Nat, lo ≤ b → b ≠ g → b < w.heap.size → w'.cell? ⟨b, o, none⟩ = w.cell? ⟨b, o, none⟩) (hs : w.heap.size ≤ w'.heap.size) : VgIn w' lo g a vs := by
  obtain ⟨b, off, ha, h1, h2, h3, hx⟩ := h
  refine ⟨b, off, ha, h1, h2, by omega, fun i v hi => ?_⟩
  obtain ⟨⟨a0, a1, a2, a3, a4, a5⟩, hp⟩ := hx i v hi
  refine ⟨⟨(hk _ _ h1 h2 h3).trans a0, (hk _ _ h1 h2 h3).trans a1, (hk _ _ h1 h2 h3).trans a2, (hk _ _ h1 h2 h3).trans a3, (hk _ _ h1 h2 h3).trans a4, (hk _ _ h1 h2 h3).trans a5⟩, ?_⟩
  rcases hp with hp | ⟨b', off', e1, e2, e3, e4, e5⟩
  · exact .inl hp
  · exact .inr ⟨b', off', e1, e2, e3, by omega, fun j x hj => ⟨(hk _ _ e2 e3 e4).trans (e5 j x hj).1, (hk _ _ e2 e3 e4).trans (e5 j x hj).2⟩⟩
theorem VgIn.kept (h : VgIn w lo g a vs) (hg : w.grownBy w' (some g)) : VgIn w' lo g a vs :=
  h.of (fun b o _ h2 h3 => World.cell?_of_block (w := w) (w' := w') (a := ⟨b, o, none⟩) (hg.block b h3 (fun e => h2 (by injection e)))) hg.size
theorem VgIn.on (h : VgIn w lo g a vs) (hb : Below w.heap.size w w') : VgIn w' lo g a vs := h.kept (grown_none hb)
theorem VgIn.aside (h : VgIn w lo g a vs) {p : Addr} (hp : p.block < lo) (u : Value) : VgIn (w.setCell p u) lo g a vs :=
  h.of (fun b o h1 _ _ => World.cell?_of_block (w := w) (w' := w.setCell p u) (a := ⟨b, o, none⟩) (Below.heap_setCell w p u b (by omega))) (by simp [World.setCell])
theorem VgIn.low {lo' : Nat} (h : VgIn w lo g a vs) (hl : lo' ≤ lo) : VgIn w lo' g a vs := by
  obtain ⟨b, off, ha, h1, h2, h3, hx⟩ := h
  refine ⟨b, off, ha, by omega, h2, h3, fun i v hi => ⟨(hx i v hi).1, ?_⟩⟩
  rcases (hx i v hi).2 with q | q
  · exact .inl q
  · exact .inr (q.low hl)
end
theorem Own1.pastIn {w : World} {B U lo g : Nat} {v : V} (h : Own1 w B U v) (hl : lo ≤ B) (hg : g < lo) : v.ts = [] ∨ PastIn w lo g v.a v.ts := by
  rcases h with h | ⟨b, cur, h1, h2, h3, h4, h5, h6⟩
  · exact .inl h
  · refine .inr ⟨b, 0, h1, by omega, by omega, h4.inside, fun i x hi => ?_⟩
    rw [Nat.zero_add]
    exact ⟨(h4.at _).trans (h6 i x hi).1, (h4.at _).trans (h6 i x hi).2⟩
theorem ORow.vgIn {w : World} {B U G lo g : Nat} {us : List V} {cur : Array Value} (h : ORow w B U G us cur) (hl : lo ≤ B) (hg : g < lo) : VgIn w lo g (some ⟨G, 0, none⟩) us := by
  have := h.lo
  refine ⟨G, 0, rfl, by omega, by omega, h.blk.inside, fun i v hi => ⟨?_, (h.own i v hi).pastIn hl hg⟩⟩
  obtain ⟨h0, h1, h2, h3, h4, h5⟩ := h.at' i v hi
  refine ⟨?_, ?_, ?_, ?_, ?_, ?_⟩
  all_goals
    rw [Nat.zero_add, h.blk.at]
    assumption
/-- The row without its first version. -/
theorem VgIn.tail {w : World} {G lo g : Nat} {us : List V} (h : VgIn w lo g (some ⟨G, 0, none⟩) us) : VgIn w lo g (some ⟨G, 6, none⟩) (us.drop 1) := by
  obtain ⟨b, off, ha, h1, h2, h3, hx⟩ := h
  injection ha with ha
  injection ha with ha1 ha2
  subst ha1 ha2
  refine ⟨G, 6, rfl, h1, h2, h3, fun i v hi => ?_⟩
  rw [List.getElem?_drop] at hi
  have := hx (1 + i) v hi
  rw [show 0 + (1 + i) * 6 = 6 + i * 6 by omega] at this
  exact this
abbrev set6 (w : World) (G k : Nat) (x0 x1 x2 x3 x4 x5 : Value) : World := (((((w.setCell ⟨G, k * 6, none⟩ x0).setCell ⟨G, k * 6 + 1, none⟩ x1).setCell ⟨G, k * 6 + 2, none⟩ x2).setCell ⟨G, k * 6 + 3, none⟩ x3).setCell ⟨G, k * 6 + 4, none⟩ x4).setCell ⟨G, k * 6 + 5, none⟩ x5
theorem turn_row (w : World) (G k : Nat) (x0 x1 x2 x3 x4 x5 : Value) : Turn (fun g => g = G) w (set6 w G k x0 x1 x2 x3 x4 x5) :=
  ((((((Turn.refl (fun g => g = G) w).set (p := ⟨G, k * 6, none⟩) rfl _).set (p := ⟨G, k * 6 + 1, none⟩) rfl _).set (p := ⟨G, k * 6 + 2, none⟩) rfl _).set (p := ⟨G, k * 6 + 3, none⟩) rfl _).set (p := ⟨G, k * 6 + 4, none⟩) rfl _).set (p := ⟨G, k * 6 + 5, none⟩) rfl _
theorem six_of {W : World} {G i : Nat} {T : TypeId} {cs : Array Value} {y : V} (hB : Blk W G T cs) (h : VerAt cs i y) : Six W G (0 + i * 6) y := by
  obtain ⟨h0, h1, h2, h3, h4, h5⟩ := h
  rw [Nat.zero_add]
  exact ⟨(hB.at _).trans h0, (hB.at _).trans h1, (hB.at _).trans h2, (hB.at _).trans h3, (hB.at _).trans h4, (hB.at _).trans h5⟩
/-- One version of the row is another one now. -/
theorem ORow.vgPut {w : World} {B U G lo g k : Nat} {us : List V} {cur : Array Value} (h : ORow w B U G us cur) (hl : lo ≤ B) (hg : g < lo) (hk : k < us.length) (v : V) (hv : v.ts = [] ∨ ∃ lo', G < lo' ∧ lo ≤ lo' ∧ PastIn w lo' g v.a v.ts) :
    VgIn (set6 w G k (.int .i64 v.k) (.int .i64 v.t) (.int .i64 v.u) (.slice v.a v.ts.length v.c) (.string v.s) (.bool v.g)) lo g (some ⟨G, 0, none⟩) (us.set k v) := by
  have hlo := h.lo
  have hT := turn_row w G k (.int .i64 v.k) (.int .i64 v.t) (.int .i64 v.u) (.slice v.a v.ts.length v.c) (.string v.s) (.bool v.g)
  have hB : Blk (set6 w G k (.int .i64 v.k) (.int .i64 v.t) (.int .i64 v.u) (.slice v.a v.ts.length v.c) (.string v.s) (.bool v.g)) G 51 (Go.Proofs.YtjnloillcgeodaaGreat.put6 cur k v) := (((((h.blk.put _ _).put _ _).put _ _).put _ _).put _ _).put _ _
  have hsz := h.size
  refine ⟨G, 0, rfl, by omega, by omega, hB.inside, fun i x hi => ?_⟩
  by_cases e : i = k
  · subst e
    rw [List.getElem?_set_self hk] at hi
    injection hi with hi
    subst hi
    refine ⟨six_of hB (verAt_put (by omega)), ?_⟩
    rcases hv with hv | ⟨lo', q1, q2, b', off', e1, e2, e3, e4, e5⟩
    · exact .inl hv
    · refine .inr ⟨b', off', e1, by omega, e3, Nat.lt_of_lt_of_le e4 hT.size, fun j x hj => ?_⟩
      have hc : ∀ o : Nat, (set6 w G i (.int .i64 v.k) (.int .i64 v.t) (.int .i64 v.u) (.slice v.a v.ts.length v.c) (.string v.s) (.bool v.g)).cell? ⟨b', o, none⟩ = w.cell? ⟨b', o, none⟩ := fun o => World.cell?_of_block (hT.block b' e4 (by omega))
      exact ⟨(hc _).trans (e5 j x hj).1, (hc _).trans (e5 j x hj).2⟩
  · rw [List.getElem?_set_ne (fun e' => e e'.symm)] at hi
    refine ⟨six_of hB (verAt_other e (h.at' i x hi)), ?_⟩
    refine Own1.pastIn (B := B) (U := U) ?_ hl hg
    rcases h.own i x hi with q | ⟨b', c', q1, q2, q3, q4, q5, q6⟩
    · exact .inl q
    · exact .inr ⟨b', c', q1, q2, q3, q4.turned hT (fun e => ver_ne_tag (blk_one h.blk (e ▸ q4))), q5, q6⟩

/-- What the draw of a store, valid or not, leaves. -/
def DrawnS (w : World) (g : Nat) (ra : Option Addr) (len cap m d : Nat) (e : Ending) (w' : World) : Prop :=
  ∃ (a : Option Addr) (c : Nat) (vs : List V), e = .returned (.agg #[.slice a vs.length c]) ∧ vs.length ≤ 4 ∧ FewV vs ∧ VgIn w' w.heap.size g a vs ∧ w.grownBy w' (some g) ∧ Rd w' g ra len cap (m + d)
/-- What the draw holds between its steps: its result's box, its own box, the reader. -/
structure DT (w : World) (g : Nat) (ra : Option Addr) (len cap mm pb : Nat) (x : Value) (wr : World) : Prop where
  res : Blk wr w.heap.size 35 #[.slice none 0 0]
  box : Blk wr pb 35 #[x]
  grown : w.grownBy wr (some g)
  rd : Rd wr g ra len cap mm
theorem fewV_drop {us : List V} (h : FewV us) (n : Nat) : FewV (us.drop n) := fun v hv => h v (List.mem_of_mem_drop hv)
theorem fewV_set {us : List V} (h : FewV us) (n : Nat) {v : V} (hv : v.ts.length ≤ 4 ∧ v.s.size ≤ 16) : FewV (us.set n v) := fun x hx => by
  rcases List.mem_or_eq_of_mem_set hx with h1 | h1
  · exact h x h1
  · rw [h1]; exact hv
theorem DT.fin {w wr : World} {g len cap mm pb m d c : Nat} {ra a : Option Addr} {vs : List V} (h : DT w g ra len cap mm pb (.slice a vs.length c) wr) (hgw : g < w.heap.size) (hby : Bytes w g ra len) (h4 : vs.length ≤ 4) (hf : FewV vs) (hv : VgIn wr (w.heap.size + 1) g a vs) (hmm : mm ≤ m + d) (hm : m + d ≤ 1000000) (x : Value) :
    DrawnS w g ra len cap m d (.returned (.agg #[.slice a vs.length c])) (wr.setCell ⟨w.heap.size, 0, none⟩ x) :=
  ⟨a, c, vs, rfl, h4, hf, (hv.aside (p := ⟨w.heap.size, 0, none⟩) (by simp only; omega) x).low (by omega), grown_set h.grown (p := ⟨w.heap.size, 0, none⟩) (Nat.le_refl _) _, (h.rd.set hby hgw h.grown (p := ⟨w.heap.size, 0, none⟩) (Nat.le_refl _) _).more _ hmm hm⟩
theorem DT.put {w wr : World} {g len cap mm pb : Nat} {ra : Option Addr} {x : Value} (h : DT w g ra len cap mm pb x wr) (hgw : g < w.heap.size) (hby : Bytes w g ra len) (hp : w.heap.size < pb) (y : Value) : DT w g ra len cap mm pb y (wr.setCell ⟨pb, 0, none⟩ y) :=
  ⟨h.res.aside (by simp only; omega) _, h.box.put 0 y, grown_set h.grown (p := ⟨pb, 0, none⟩) (by simp only; omega) _, h.rd.set hby hgw h.grown (p := ⟨pb, 0, none⟩) (by simp only; omega) _⟩
theorem DT.turned {w wr w2 : World} {g len cap mm pb G : Nat} {ra : Option Addr} {x : Value} (h : DT w g ra len cap mm pb x wr) (hgw : g < w.heap.size) (hby : Bytes w g ra len) (ht : Turn (fun q => q = G) wr w2) (hG : w.heap.size < G) (hp : pb ≠ G) : DT w g ra len cap mm pb x w2 := by
  have hgr := grown_turn h.grown ht (by omega)
  exact ⟨h.res.turned ht (by omega), h.box.turned ht hp, hgr, h.rd.turned hby hgr ht (by omega)⟩
theorem DS.dt {w wr : World} {g len cap mm pb G : Nat} {ra : Option Addr} {us : List V} (h : DS w g ra len cap mm pb G us wr) : DT w g ra len cap mm pb (.slice (some ⟨G, 0, none⟩) 4 4) wr := ⟨h.res, h.box, h.grown, h.rd⟩

theorem DS.inG {w wr : World} {g len cap mm pb G : Nat} {ra : Option Addr} {us : List V} (h : DS w g ra len cap mm pb G us wr) : G < wr.heap.size := by
  obtain ⟨cur, hr⟩ := h.row
  exact hr.hi
/-- The cells of a version of a row. -/
theorem ORow.cells6 {w : World} {B U G k : Nat} {us : List V} {cur : Array Value} (h : ORow w B U G us cur) (hk : k < us.length) :
    (∃ x0 x1 x2 x3 x4 x5, w.cell? ⟨G, k * 6, none⟩ = some x0 ∧ w.cell? ⟨G, k * 6 + 1, none⟩ = some x1 ∧ w.cell? ⟨G, k * 6 + 2, none⟩ = some x2 ∧ w.cell? ⟨G, k * 6 + 3, none⟩ = some x3 ∧ w.cell? ⟨G, k * 6 + 4, none⟩ = some x4 ∧ w.cell? ⟨G, k * 6 + 5, none⟩ = some x5) ∧ (w.frozen? ⟨G, k * 6, none⟩ = false ∧ w.frozen? ⟨G, k * 6 + 1, none⟩ = false ∧ w.frozen? ⟨G, k * 6 + 2, none⟩ = false ∧ w.frozen? ⟨G, k * 6 + 3, none⟩ = false ∧ w.frozen? ⟨G, k * 6 + 4, none⟩ = false ∧ w.frozen? ⟨G, k * 6 + 5, none⟩ = false) := by
  obtain ⟨h0, h1, h2, h3, h4, h5⟩ := h.at' k _ (List.getElem?_eq_getElem hk)
  exact ⟨⟨_, _, _, _, _, _, (h.blk.at _).trans h0, (h.blk.at _).trans h1, (h.blk.at _).trans h2, (h.blk.at _).trans h3, (h.blk.at _).trans h4, (h.blk.at _).trans h5⟩, h.blk.loose _, h.blk.loose _, h.blk.loose _, h.blk.loose _, h.blk.loose _, h.blk.loose _⟩
/-- The row stays when the box is written. -/
theorem DS.row2 {w wr : World} {g len cap mm pb G : Nat} {ra : Option Addr} {us : List V} (h : DS w g ra len cap mm pb G us wr) (y : Value) : ∃ cur, ORow (wr.setCell ⟨pb, 0, none⟩ y) (w.heap.size + 1) wr.heap.size G us cur := by
  obtain ⟨cur, hrow⟩ := h.row
  have hne := h.ne
  have ht : Turn (fun x => x = pb) wr (wr.setCell ⟨pb, 0, none⟩ y) := (Turn.refl (fun x => x = pb) wr).set (p := ⟨pb, 0, none⟩) rfl _
  refine ⟨cur, hrow.blk.aside (by simp only; exact fun e => hne e.symm) _, hrow.lo, hrow.hi, hrow.size, hrow.at', fun i v hi => ?_, hrow.apart⟩
  rcases hrow.own i v hi with q | ⟨x, cx, q1, q2, q3, q4, q5, q6⟩
  · exact .inl q
  · exact .inr ⟨x, cx, q1, q2, q3, q4.turned ht (fun e => store_ne_tag2 (blk_one h.box (e ▸ q4))), q5, q6⟩
set_option maxRecDepth 100000 in
set_option maxHeartbeats 4000000 in
theorem l20AnyStore_any (w : World) (g : Nat) (a : Option Addr) (len cap m : Nat) (h : Rd w g a len cap m) (hm : m + 300 ≤ 1000000) :
    Calls Tryz.prog 59 #[.pointer (some ⟨g, 0, none⟩)] w (DrawnS w g a len cap m 300) := by
  have hgw := h.inside
  have HBY := hide h.bytes
  have B0 := Blk.made w 35 #[.slice none 0 0]
  have L0 := below_alloc1 w (.cells #[.slice none 0 0] 35)
  have G0 := grown_none (row := some g) L0
  go_enter Tryz.func59, Tryz.ntmps59
  go_wp2_with fail
  refine (l20Store_any _ g a len cap m (h.on L0) (by omega)).mono ?_
  rintro e w1 ⟨G, us, cur, rfl, h4, hf, hrow, hg1, h1⟩
  simp only [World.size_alloc] at hrow
  have LA := below_alloc1 w1 (.cells #[.slice (some ⟨G, 0, none⟩) 4 4] 35)
  have z1 : w.heap.size + 1 ≤ w1.heap.size := by have := hg1.size; simpa using this
  have hpb : w.heap.size < w1.heap.size := by omega
  have HD : Hid (DS w g a len cap (m + 200) w1.heap.size G us (w1.alloc (.cells #[.slice (some ⟨G, 0, none⟩) 4 4] 35))) :=
    ⟨(B0.kept hg1 (by intro e; injection e; omega)).on LA, Blk.made _ _ _, ⟨cur, by
      have q := (hrow.on LA).wide LA.size
      exact ⟨q.blk, by have := q.lo; omega, q.hi, q.size, q.at', fun i v hi => by
        rcases q.own i v hi with r | ⟨x, y, r1, r2, r3⟩
        · exact .inl r
        · exact .inr ⟨x, y, r1, by omega, r3⟩, q.apart⟩⟩, h4, hf, (G0.trans hg1).trans (grown_none LA), h1.on LA⟩
  clear B0 L0 G0 h hg1 h1 hrow LA z1 hf h4
  go_wp2_with fail
  generalize w1.alloc (.cells #[.slice (some ⟨G, 0, none⟩) 4 4] 35) = W1 at HD ⊢
  obtain ⟨pb, epb⟩ : ∃ pb, pb = w1.heap.size := ⟨_, rfl⟩
  rw [← epb] at HD hpb ⊢
  clear epb
  refine (pick_any _ g a len cap _ _ HD.out.rd (by omega) (by omega)).mono ?_
  rintro e w2 ⟨x, hx, rfl, hg2, h2⟩
  have D2 := HD.out.kept hgw hpb hg2 h2
  clear HD hg2 h2 hx
  have hlo := D2.lo
  have hne := D2.ne
  have h4 := hide D2.four
  have hf := hide D2.few
  by_cases hx0 : x = 0
  · subst hx0
    obtain ⟨cur, hrow⟩ := D2.row2 (.slice (some ⟨G, 6, none⟩) 3 3)
    have HV := hide (hrow.vgIn (lo := w.heap.size + 1) (g := g) (Nat.le_refl _) (by omega)).tail
    have D3 := D2.dt.put hgw HBY.out hpb (.slice (some ⟨G, 6, none⟩) 3 3)
    have k2 := D2.box.one
    have r9 := D3.res.one
    have k9 := D3.box.one
    have H9 := hide D3
    clear D2 D3 hrow
    go_wp2
    refine bodyPost_ret (v := .agg #[.slice (some ⟨G, 6, none⟩) 3 3]) (by simp [results, Tryz.results59, go_sem, r9]) rfl ?_
    have hl : (us.drop 1).length = 3 := by rw [List.length_drop, h4.out]
    have F := DT.fin (vs := us.drop 1) (a := some ⟨G, 6, none⟩) (c := 3) (m := m) (d := 300) (by rw [hl]; exact H9.out) hgw HBY.out (by omega) (fewV_drop hf.out 1) HV.out (by omega) hm (.slice (some ⟨G, 6, none⟩) 3 3)
    rw [hl] at F
    exact F
  have hb0 : (x == 0) = false := by simpa using hx0
  have fin9 : ∀ (wr : World) (vs : List V), vs.length = 4 → FewV vs → VgIn wr (w.heap.size + 1) g (some ⟨G, 0, none⟩) vs → ∀ mm, mm ≤ m + 300 → DT w g a len cap mm pb (.slice (some ⟨G, 0, none⟩) 4 4) wr → DrawnS w g a len cap m 300 (.returned (.agg #[.slice (some ⟨G, 0, none⟩) 4 4])) (wr.setCell ⟨w.heap.size, 0, none⟩ (.slice (some ⟨G, 0, none⟩) 4 4)) := fun wr vs hl hfw hvg mm hmm hdt => by
    have F := DT.fin (vs := vs) (a := some ⟨G, 0, none⟩) (c := 4) (m := m) (d := 300) (by rw [hl]; exact hdt) hgw HBY.out (by omega) hfw hvg hmm hm (.slice (some ⟨G, 0, none⟩) 4 4)
    rw [hl] at F
    exact F
  have FIN := hide fin9
  clear fin9
  by_cases hx1 : x = 1
  · subst hx1
    have D3 := D2.drew hgw hpb
    clear D2
    go_wp2_with fail
    refine wp_region_noPanic ?_
    refine wp_region_held_drew (S := (fun w' => w'.cell? ⟨pb, 0, none⟩ = some (.slice (some ⟨G, 0, none⟩) 4 4) ∧ Blk w' pb 35 #[.slice (some ⟨G, 0, none⟩) 4 4])) (by kernel_rfl) (by exact ⟨D3.box.at 0, D3.box⟩) (fun hHeld => ?_)
    refine take_run 0 (some 16) (v := ?_) rfl rfl (by kernel_rfl) (by kernel_rfl) (by kernel_rfl) (fun _ _ _ h => h) (by rfl) ?_ hHeld ?_
    rotate_left
    · ((intro w hSw); (try dsimp only at hSw); go_simp <;> with_reducible rfl)
    simp only [Act.put, List.setIfInBounds_toArray, List.set_cons_zero, List.set_cons_succ]
    refine take_run 1 (some 17) (v := ?_) rfl rfl (by kernel_rfl) (by kernel_rfl) (by kernel_rfl) (fun _ _ _ h => h) (by rfl) ?_ hHeld ?_
    rotate_left
    · ((intro w hSw); (try dsimp only at hSw); go_simp <;> with_reducible rfl)
    simp only [Act.put, List.setIfInBounds_toArray, List.set_cons_zero, List.set_cons_succ]
    refine take_run 2 (some 18) (v := ?_) rfl rfl (by kernel_rfl) (by kernel_rfl) (by kernel_rfl) (fun _ _ _ h => h) (by rfl) ?_ hHeld ?_
    rotate_left
    · ((intro w hSw); (try dsimp only at hSw); go_simp <;> with_reducible rfl)
    simp only [Act.put, List.setIfInBounds_toArray, List.set_cons_zero, List.set_cons_succ]
    refine take_run 4 (some 20) (v := ?_) rfl rfl (by kernel_rfl) (by kernel_rfl) (by kernel_rfl) (fun _ _ _ h => h) (by rfl) ?_ hHeld ?_
    rotate_left
    · ((intro w hSw); (try dsimp only at hSw); go_simp <;> with_reducible rfl)
    simp only [Act.put, List.setIfInBounds_toArray, List.set_cons_zero, List.set_cons_succ]
    refine take_one 3 (by kernel_rfl) rfl (fun K hK => ?_)
    go_simp
    (refine (pick_any _ g a len cap _ _ D3.rd (by omega) (by omega)).mono ?_; rintro e w3 ⟨y, hy, rfl, hg3, h3⟩; have D4 := D3.kept hgw hpb hg3 h3; have hy0 := hy.1; have hy1 := hy.2 (by omega); obtain ⟨yn, rfl⟩ := Int.eq_ofNat_of_zero_le hy0; have hyn : yn < 4 := (by omega))
    try go_wp2_with fail
    refine hK.out _ _ (by exact ⟨D4.box.at 0, D4.box⟩) (fun hHeld => ?_)
    clear hK K
    refine take_one 5 (by kernel_rfl) rfl (fun K hK => ?_)
    go_simp
    (refine (l20AnyVer_any _ g a len cap _ D4.rd (by omega)).mono ?_; rintro e w4 ⟨v, rfl, hv4, hv16, hpast, hg4, h4'⟩; have D5 := D4.kept hgw hpb hg4 h4'; obtain ⟨cur, hrow⟩ := D5.row; have HR := hide hrow; obtain ⟨⟨y0, y1, y2, y3, y4, y5, c0, c1, c2, c3, c4, c5⟩, cf⟩ := hrow.cells6 (by have := h4.out; omega : yn < us.length); have HP := hide hpast; have zz := D4.inG; clear hpast hrow)
    try go_wp2_with fail
    refine hK.out _ _ (by exact ⟨D5.box.at 0, D5.box⟩) (fun hHeld => ?_)
    clear hK K
    refine take_run 6 (some 22) (v := ?_) rfl rfl (by kernel_rfl) (by kernel_rfl) (by kernel_rfl) (fun _ _ _ h => h) (by rfl) ?_ hHeld ?_
    rotate_left
    · ((intro w hSw); (try dsimp only at hSw); go_simp <;> with_reducible rfl)
    simp only [Act.put, List.setIfInBounds_toArray, List.set_cons_zero, List.set_cons_succ]
    refine take_one 7 (by kernel_rfl) rfl (fun K hK => ?_)
    go_simp
    refine hK.out _ _ (by exact ⟨(D5.box.turned (turn_row _ G yn _ _ _ _ _ _) hne).at 0, D5.box.turned (turn_row _ G yn _ _ _ _ _ _) hne⟩) (fun hHeld => ?_)
    clear hK K
    refine wpAnyH_done (by kernel_rfl) ?_ _
    refine NoPanic.normal ?_
    have D6 := D5.dt.turned hgw HBY.out (turn_row w4 G yn (.int .i64 v.k) (.int .i64 v.t) (.int .i64 v.u) (.slice v.a v.ts.length v.c) (.string v.s) (.bool v.g)) hlo hne
    have HV := hide (HR.out.vgPut (lo := w.heap.size + 1) (g := g) (Nat.le_refl _) (by omega) (by have := h4.out; omega : yn < us.length) v (.inr ⟨w3.heap.size, zz, by omega, HP.out⟩))
    have r9 := D6.res.one
    have k9 := D6.box.one
    have H9 := hide D6
    clear hHeld D3 D4 D5 D6 c0 c1 c2 c3 c4 c5 cf hg3 h3 hg4 h4'
    go_wp2
    refine bodyPost_ret (v := .agg #[.slice (some ⟨G, 0, none⟩) 4 4]) (by simp [results, Tryz.results59, go_sem, r9]) rfl ?_
    exact FIN.out _ (us.set yn v) (by rw [List.length_set]; exact h4.out) (fewV_set hf.out yn ⟨hv4, hv16⟩) HV.out _ (by omega) H9.out
  have hb1 : (x == 1) = false := by simpa using hx1
  by_cases hx2 : x = 2
  · subst hx2
    have D3 := D2.drew hgw hpb
    clear D2
    go_wp2_with fail
    refine wp_region_noPanic ?_
    refine wp_region_held_drew (S := (fun w' => w'.cell? ⟨pb, 0, none⟩ = some (.slice (some ⟨G, 0, none⟩) 4 4) ∧ Blk w' pb 35 #[.slice (some ⟨G, 0, none⟩) 4 4])) (by kernel_rfl) (by exact ⟨D3.box.at 0, D3.box⟩) (fun hHeld => ?_)
    refine take_run 0 (some 25) (v := ?_) rfl rfl (by kernel_rfl) (by kernel_rfl) (by kernel_rfl) (fun _ _ _ h => h) (by rfl) ?_ hHeld ?_
    rotate_left
    · ((intro w hSw); (try dsimp only at hSw); go_simp <;> with_reducible rfl)
    simp only [Act.put, List.setIfInBounds_toArray, List.set_cons_zero, List.set_cons_succ]
    refine take_run 1 (some 26) (v := ?_) rfl rfl (by kernel_rfl) (by kernel_rfl) (by kernel_rfl) (fun _ _ _ h => h) (by rfl) ?_ hHeld ?_
    rotate_left
    · ((intro w hSw); (try dsimp only at hSw); go_simp <;> with_reducible rfl)
    simp only [Act.put, List.setIfInBounds_toArray, List.set_cons_zero, List.set_cons_succ]
    refine take_run 2 (some 27) (v := ?_) rfl rfl (by kernel_rfl) (by kernel_rfl) (by kernel_rfl) (fun _ _ _ h => h) (by rfl) ?_ hHeld ?_
    rotate_left
    · ((intro w hSw); (try dsimp only at hSw); go_simp <;> with_reducible rfl)
    simp only [Act.put, List.setIfInBounds_toArray, List.set_cons_zero, List.set_cons_succ]
    refine take_run 4 (some 29) (v := ?_) rfl rfl (by kernel_rfl) (by kernel_rfl) (by kernel_rfl) (fun _ _ _ h => h) (by rfl) ?_ hHeld ?_
    rotate_left
    · ((intro w hSw); (try dsimp only at hSw); go_simp <;> with_reducible rfl)
    simp only [Act.put, List.setIfInBounds_toArray, List.set_cons_zero, List.set_cons_succ]
    refine take_one 3 (by kernel_rfl) rfl (fun K hK => ?_)
    go_simp
    (refine (pick_any _ g a len cap _ _ D3.rd (by omega) (by omega)).mono ?_; rintro e w3 ⟨y, hy, rfl, hg3, h3⟩; have D4 := D3.kept hgw hpb hg3 h3; have hy0 := hy.1; have hy1 := hy.2 (by omega); obtain ⟨yn, rfl⟩ := Int.eq_ofNat_of_zero_le hy0; have hyn : yn < 4 := (by omega); obtain ⟨cur, hrow⟩ := D4.row; have HR := hide hrow; obtain ⟨⟨y0, y1, y2, y3, y4, y5, c0, c1, c2, c3, c4, c5⟩, cf⟩ := hrow.cells6 (by have := h4.out; omega : yn < us.length); clear hrow)
    try go_wp2_with fail
    refine hK.out _ _ (by exact ⟨D4.box.at 0, D4.box⟩) (fun hHeld => ?_)
    clear hK K
    refine take_run 5 (some 30) (v := ?_) rfl rfl (by kernel_rfl) (by kernel_rfl) (by kernel_rfl) (fun _ _ _ h => h) (by rfl) ?_ hHeld ?_
    rotate_left
    · ((intro w hSw); (try dsimp only at hSw); go_simp <;> with_reducible rfl)
    simp only [Act.put, List.setIfInBounds_toArray, List.set_cons_zero, List.set_cons_succ]
    refine take_one 6 (by kernel_rfl) rfl (fun K hK => ?_)
    go_simp
    refine hK.out _ _ (by exact ⟨(D4.box.turned (turn_row _ G yn _ _ _ _ _ _) hne).at 0, D4.box.turned (turn_row _ G yn _ _ _ _ _ _) hne⟩) (fun hHeld => ?_)
    clear hK K
    refine wpAnyH_done (by kernel_rfl) ?_ _
    refine NoPanic.normal ?_
    have D6 := D4.dt.turned hgw HBY.out (turn_row w3 G yn (.int .i64 0) (.int .i64 0) (.int .i64 0) (.slice none 0 0) (.string ⟨#[120]⟩) (.bool false)) hlo hne
    have HV := hide (HR.out.vgPut (lo := w.heap.size + 1) (g := g) (Nat.le_refl _) (by omega) (by have := h4.out; omega : yn < us.length) ⟨0, 0, 0, none, 0, [], ⟨#[120]⟩, false⟩ (.inl rfl))
    have r9 := D6.res.one
    have k9 := D6.box.one
    have H9 := hide D6
    clear hHeld D3 D4 D6 c0 c1 c2 c3 c4 c5 cf hg3 h3
    go_wp2
    refine bodyPost_ret (v := .agg #[.slice (some ⟨G, 0, none⟩) 4 4]) (by simp [results, Tryz.results59, go_sem, r9]) rfl ?_
    exact FIN.out _ (us.set yn ⟨0, 0, 0, none, 0, [], ⟨#[120]⟩, false⟩) (by rw [List.length_set]; exact h4.out) (fewV_set hf.out yn ⟨Nat.zero_le _, (by decide : (ByteArray.mk #[120]).size ≤ 16)⟩) HV.out _ (by omega) H9.out
  have hb2 : (x == 2) = false := by simpa using hx2
  obtain ⟨cur, hrow⟩ := D2.row
  have HV := hide (hrow.vgIn (lo := w.heap.size + 1) (g := g) (Nat.le_refl _) (by omega))
  have r9 := D2.res.one
  have k9 := D2.box.one
  have H9 := hide D2.dt
  clear D2 hrow
  go_wp2
  refine bodyPost_ret (v := .agg #[.slice (some ⟨G, 0, none⟩) 4 4]) (by simp [results, Tryz.results59, go_sem, r9]) rfl ?_
  exact FIN.out _ us h4.out hf.out HV.out _ (by omega) H9.out
end Go.Proofs.YtjnloillcgeodaaGreat
/- What the nodes of a chain that is drawn are like, and stay like. No condition. -/
namespace Go.Proofs.YtjnloillcgeodaaGreat
open Go.RowKit Go.Joins

/-- A version of a drawn store: one with a key and causes as a valid one has, or one of no tag; a drawn version that waits. -/
def slD (v : V) : Prop := (shV v ∨ (v.t = 0 ∧ v.u = 0)) ∧ (0 ≤ v.t ∧ 0 ≤ v.u) ∧ v.ts.length ≤ 4 ∧ v.s.size ≤ 16
def wvD (v : V) : Prop := shV v ∧ (0 ≤ v.t ∧ 0 ≤ v.u) ∧ v.s.size ≤ 16
def shD (n : Nd) : Prop := n.ss.length = 4 ∧ (∀ v ∈ n.ss, slD v) ∧ n.ws.length ≤ 6 ∧ ∀ v ∈ n.ws, wvD v
def ShDs (us : List Nd) : Prop := (1 ≤ us.length ∧ us.length ≤ 4) ∧ ∀ (i : Nat) n, us[i]? = some n → shD n
theorem slD_of {v : V} (h : wvD v) : slD v := ⟨.inl h.1, h.2.1, Nat.le_of_eq h.1.2, h.2.2⟩
theorem slD_like {v u : V} (h : V.like v u) (k : slD u) : slD v := by
  obtain ⟨h1, h2, h3, h4, h5, _⟩ := h
  unfold slD shV at *
  rw [h1, h2, h3, h4, h5]
  exact k
theorem wvD_like {v u : V} (h : V.like v u) (k : wvD u) : wvD v := by
  obtain ⟨h1, h2, h3, h4, h5, _⟩ := h
  unfold wvD shV at *
  rw [h1, h2, h3, h4, h5]
  exact k
theorem all_like {us vs : List V} {P : V → Prop} (hl : us.length = vs.length) (h : Like us vs) (hP : ∀ v u, V.like v u → P u → P v) (k : ∀ v ∈ vs, P v) : ∀ v ∈ us, P v := fun v hv => by
  obtain ⟨i, hi⟩ := List.getElem?_of_mem hv
  obtain ⟨u, hu⟩ : ∃ u, vs[i]? = some u := ⟨_, List.getElem?_eq_getElem (by rw [← hl]; exact (List.getElem?_eq_some_iff.1 hi).1)⟩
  exact hP v u (h i v u hi hu) (k u (List.mem_of_getElem? hu))
theorem shD_like {n m : Nd} (h : Nd.like n m) (k : shD m) : shD n :=
  ⟨h.1.trans k.1, all_like h.1 h.2.1 (fun _ _ => slD_like) k.2.1, by rw [h.2.2.1]; exact k.2.2.1, all_like h.2.2.1 h.2.2.2 (fun _ _ => wvD_like) k.2.2.2⟩
theorem shDs_like {us ns : List Nd} (h : NL us ns) (k : ShDs ns) : ShDs us := ⟨by rw [h.1]; exact k.1, fun i n hi => by
  obtain ⟨m, hm, hl⟩ := nl_at h hi
  exact shD_like hl (k.2 i m hm)⟩
theorem shN_ofD {n : Nd} (h : shD n) : shN n := ⟨h.1, h.2.2.1, fun v hv => (h.2.2.2 v hv).1⟩
theorem smN_ofD {us : List Nd} (h : ShDs us) : SmN us := fun i n hi => by
  obtain ⟨h1, h2, h3, h4⟩ := h.2 i n hi
  exact ⟨⟨by omega, by omega⟩, fun v hv => by obtain ⟨_, _, h5, h6⟩ := h2 v hv; omega, fun v hv => by obtain ⟨⟨_, h5⟩, _, h6⟩ := h4 v hv; omega⟩
theorem shD_add {n : Nd} {v : V} {b : Bool} (hn : shD n) (hv : wvD v) (hr : b = true ∨ n.ws.length < 6) : shD (addNd n b v) := by
  unfold addNd
  cases hs : stepL n.ss v with
  | none => exact hn
  | some ss' =>
    obtain ⟨h1, h2, h3, h4⟩ := hn
    have hss : ss'.length = 4 ∧ ∀ x ∈ ss', slD x := by
      unfold stepL at hs
      split at hs
      · split at hs
        · injection hs with hs
          subst hs
          refine ⟨by rw [List.length_set]; exact h1, fun x hx => ?_⟩
          rcases List.mem_or_eq_of_mem_set hx with h | h
          · exact h2 x h
          · rw [h]; exact slD_of hv
        · cases hs
      · cases hs
    refine ⟨hss.1, hss.2, ?_, ?_⟩
    · simp only
      split
      · exact h3
      · rename_i hb
        rcases hr with hr | hr
        · exact absurd hr hb
        · rw [List.length_append]; simp; omega
    · simp only
      split
      · exact h4
      · intro x hx
        rw [List.mem_append, List.mem_singleton] at hx
        rcases hx with hx | rfl
        · exact h4 x hx
        · exact hv
theorem shDs_set {us : List Nd} {k : Nat} {n : Nd} (h : ShDs us) (hn : shD n) : ShDs (us.set k n) := ⟨by rw [List.length_set]; exact h.1, fun i y hy => by
  rcases List.mem_or_eq_of_mem_set (List.mem_of_getElem? hy) with hx | rfl
  · obtain ⟨j, hj⟩ := List.getElem?_of_mem hx
    exact h.2 j y hj
  · exact hn⟩
theorem shDs_add {us : List Nd} {k : Nat} {v : V} (h : ShDs us) (hv : wvD v) (hr : ∀ n, us[k]? = some n → k + 1 = us.length ∨ n.ws.length < 6) : ShDs (addN us k v) := by
  unfold addN
  cases hx : us[k]? with
  | none => exact h
  | some n =>
    refine shDs_set h (shD_add (h.2 k n hx) hv ?_)
    rcases hr n hx with q | q
    · exact .inl (decide_eq_true q)
    · exact .inr q
theorem shDs_go {us : List Nd} {k : Nat} (h : ShDs us) (hc : canB us k = true) : ShDs (goN us k) := by
  cases hx : us[k]? with
  | none => unfold goN; rw [hx]; exact h
  | some n =>
    cases hw : n.ws with
    | nil => unfold goN; rw [hx]; simp only [hw]; exact h
    | cons v r =>
      rw [goN_at hx hw]
      obtain ⟨h1, h2, h3, h4⟩ := h.2 k n hx
      have ht : shD (tailNd n) := ⟨h1, h2, by simp [tailNd]; omega, fun x hx => h4 x (List.mem_of_mem_tail hx)⟩
      refine shDs_add (shDs_set h ht) (h4 v (by rw [hw]; exact List.mem_cons_self)) (fun m hm => ?_)
      rw [List.getElem?_set_ne (by omega)] at hm
      rw [canB_at hx hm, Bool.and_eq_true, decide_eq_true_eq, decide_eq_true_eq] at hc
      exact .inr hc.2
theorem lackN_wv {xs ys : List V} (hx : ∀ v ∈ xs, slD v) (hy : ∀ v ∈ ys, slD v) : ∀ (i : Nat) v, v ∈ lackN xs ys i → wvD v
  | 0, v, h => by simp [lackN] at h
  | i + 1, v, h => by
    unfold lackN at h
    split at h
    · rename_i x y h1 h2
      split at h
      · rename_i hl
        unfold insL at h
        rw [List.mem_append, List.mem_cons] at h
        rcases h with h | rfl | h
        · exact lackN_wv hx hy i v ((List.takeWhile_subset _) h)
        · obtain ⟨q1, q2, q3, q4⟩ := hx v (List.mem_of_getElem? h1)
          obtain ⟨_, p2, _⟩ := hy y (List.mem_of_getElem? h2)
          rcases q1 with q1 | q1
          · exact ⟨q1, q2, q4⟩
          · unfold lessB at hl
            rw [decide_eq_true_eq] at hl
            omega
        · exact lackN_wv hx hy i v ((List.dropWhile_subset _) h)
      · exact lackN_wv hx hy i v h
    · exact lackN_wv hx hy i v h
theorem shD_bare {n : Nd} (h : shD n) : shD (bare n) := ⟨h.1, h.2.1, by simp [bare], fun v hv => by simp [bare] at hv⟩
theorem shD_lack {n m : Nd} (h : shD n) (hm : shD m) : shD (lackNd n m) := ⟨h.1, h.2.1, by have := lackN_len n.ss m.ss 4; simp only [lackNd]; omega, fun v hv => lackN_wv h.2.1 hm.2.1 4 v hv⟩
theorem shDs_erase {us : List Nd} {k : Nat} (h : ShDs us) (h2 : 2 ≤ us.length) (hk : k < us.length) : ShDs (us.eraseIdx k) := ⟨by rw [erase_len hk]; have := h.1; omega, fun i n hi => by
  rw [List.getElem?_eraseIdx] at hi
  split at hi
  · exact h.2 i n hi
  · exact h.2 (i + 1) n hi⟩
theorem shDs_owed {us : List Nd} {k : Nat} (h : ShDs us) : ShDs (owedN us k) := by
  by_cases hc : 0 < k ∧ k < us.length
  · obtain ⟨n, hn⟩ : ∃ n, us[k - 1]? = some n := ⟨_, List.getElem?_eq_getElem (by omega)⟩
    obtain ⟨m, hm⟩ : ∃ m, us[k]? = some m := ⟨_, List.getElem?_eq_getElem hc.2⟩
    rw [owedN_at hc.1 hn hm]
    exact shDs_set h (shD_lack (h.2 _ n hn) (h.2 _ m hm))
  · rw [owedN_head hc]
    exact h
theorem shDs_last {us : List Nd} (h : ShDs us) : ShDs (lastN us) := by
  unfold lastN
  cases hx : us[us.length - 1]? with
  | none => exact h
  | some n => exact shDs_set h (shD_bare (h.2 _ n hx))
theorem shDs_fall {us : List Nd} {k : Nat} (h : ShDs us) (h2 : 2 ≤ us.length) (hk : k < us.length) : ShDs (fallG us k) := shDs_last (shDs_owed (shDs_erase h h2 hk))
theorem shDs_join {us : List Nd} {nd v' : Nd} {p : Nat} (h : ShDs us) (h3 : us.length < 4) (hp : us[p]? = some nd) (hl : Nd.like v' (bare nd)) : ShDs (us ++ [v']) := ⟨by rw [List.length_append]; simp; omega, fun i n hi => by
  rcases snoc_get rfl i n hi with ⟨_, rfl⟩ | ⟨_, hq⟩
  · exact shD_like hl (shD_bare (h.2 p nd hp))
  · exact h.2 i n hq⟩
/-- The nodes of a new chain are a row of nodes. -/
theorem flat_nd0 (gs : List Nat) : flatN (gs.map nd0) = flat2 gs := by
  induction gs with
  | nil => rfl
  | cons g r ih =>
    simp [flatN, flat2, cellsN, cells2, nd0] at *
    exact ih
theorem NwRow.grow {base : Nat} {wr : World} {x : Value} {gs : List Nat} (h : NwRow base wr x gs) : GRow base wr x (gs.map nd0) := by
  have hget : ∀ (i : Nat) y, (gs.map nd0)[i]? = some y → ∃ g, gs[i]? = some g ∧ y = nd0 g := by
    intro i y hy
    rw [List.getElem?_map] at hy
    cases hx : gs[i]? with
    | none => rw [hx] at hy; cases hy
    | some x =>
      rw [hx] at hy
      simp only [Option.map_some] at hy
      injection hy with hy
      exact ⟨x, rfl, hy.symm⟩
  have hw : ∀ {g y : Nat}, ¬ FootW (nd0 g) y := fun hf => by
    rcases hf with hf | hf
    · exact hf.1 rfl
    · simp [nd0, Value.ownBlock] at hf
  have hO : ∀ {g y : Nat}, FootO (nd0 g) y → y = g := fun hf => by
    rcases hf with hf | hf
    · exact foot0 (.inl hf)
    · exact absurd hf hw
  refine ⟨by rw [List.length_map, flat_nd0]; exact h.row, fun i y hy => ?_, fun i y hy => ?_, fun i y hy g h1 h2 => ?_, fun i j y y' hne hy hy' x h1 h2 => ?_, h.lo, fun i y hy => ?_⟩
  · obtain ⟨g, hg, rfl⟩ := hget i y hy
    have ho := h.own i g hg
    exact .inr ⟨g, zero24, rfl, ho.1, ho.2, ho.1.inside, by simp [nd0], zero24_at, fun i v hi => .inl (by rw [v0_mem hi]; rfl), fun i j v v' _ hi _ hn => by rw [v0_mem hi] at hn; exact absurd rfl hn⟩
  · obtain ⟨g, hg, rfl⟩ := hget i y hy
    exact .inl rfl
  · obtain ⟨g, hg, rfl⟩ := hget i y hy
    exact hw h2
  · obtain ⟨g, hg, rfl⟩ := hget i y hy
    obtain ⟨g', hg', rfl⟩ := hget j y' hy'
    exact h.apart i j g g' hne hg hg' ((hO h1).symm.trans (hO h2))
  · obtain ⟨g, hg, rfl⟩ := hget i y hy
    exact CRow.start base wr h.lo
theorem shD_nd0 (g : Nat) : shD (nd0 g) := by
  have h0 : ∀ v ∈ (nd0 g).ss, v = v0 := fun v hv => by
    obtain ⟨i, hi⟩ := List.getElem?_of_mem hv
    exact v0_mem hi
  refine ⟨rfl, fun v hv => ?_, by simp [nd0], fun v hv => by simp [nd0] at hv⟩
  rw [h0 v hv]
  exact ⟨.inr ⟨rfl, rfl⟩, ⟨Int.le_refl _, Int.le_refl _⟩, Nat.zero_le _, (by decide : (ByteArray.mk #[]).size ≤ 16)⟩
theorem shDs_new {gs : List Nat} (h : 1 ≤ gs.length ∧ gs.length ≤ 4) : ShDs (gs.map nd0) := ⟨by rw [List.length_map]; exact h, fun i n hi => by
  rw [List.getElem?_map] at hi
  cases hx : gs[i]? with
  | none => rw [hx] at hi; cases hi
  | some g =>
    rw [hx] at hi
    simp only [Option.map_some] at hi
    injection hi with hi
    subst hi
    exact shD_nd0 g⟩
end Go.Proofs.YtjnloillcgeodaaGreat
