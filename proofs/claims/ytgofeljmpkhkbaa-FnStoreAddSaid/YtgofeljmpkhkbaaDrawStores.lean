/- Contract of the draw of a store. Condition: as in Draw. -/
import Derived.Test.YtgofeljmpkhkbaaDrawVers3
import Derived.Test.YtgofeljmpkhkbaaStoreAdd
import Derived.Test.YtgofeljmpkhkbaaStoreNew0
namespace Go.Proofs.Ytgofeljmpkhkbaa
open Go.RowKit Go.Joins
attribute [local go_sem ↓] Go.wp_at_zero Go.wp_at_succ

/-- Versions of few tags and short texts. -/
def FewV (us : List V) : Prop := ∀ v ∈ us, v.ts.length ≤ 4 ∧ v.s.size ≤ 16
theorem fewV_keep {us us' : List V} {v : V} (h : FewV us) (hv : v.ts.length ≤ 4 ∧ v.s.size ≤ 16) (hl : us'.length = us.length) (hk : Like us' (keepL us v)) : FewV us' := by
  intro x hx
  obtain ⟨i, hi⟩ := List.getElem?_of_mem hx
  have hlen : i < (keepL us v).length := by rw [keepL_len, ← hl]; exact (List.getElem?_eq_some_iff.1 hi).1
  obtain ⟨y, hy⟩ : ∃ y, (keepL us v)[i]? = some y := ⟨_, List.getElem?_eq_getElem hlen⟩
  obtain ⟨_, _, _, e4, e5, _⟩ := hk i x y hi hy
  have key : y ∈ us ∨ y = v := by
    have hm := List.mem_of_getElem? hy
    unfold keepL at hm
    split at hm
    · split at hm
      · rcases List.mem_or_eq_of_mem_set hm with h1 | h1
        · exact .inl h1
        · exact .inr h1
      · exact .inl hm
    · exact .inl hm
  rw [e4, e5]
  rcases key with hm | rfl
  · exact h y hm
  · exact hv
theorem grown_turn {w wr w2 : World} {g G : Nat} (h : w.grownBy wr (some g)) (ht : Turn (fun x => x = G) wr w2) (hG : w.heap.size ≤ G) : w.grownBy w2 (some g) :=
  ⟨ht.os.trans h.os, ht.tape.trans h.tape, ht.output.trans h.output, Nat.le_trans h.size ht.size, fun i hi hn => (ht.block i (Nat.lt_of_lt_of_le hi h.size) (by omega)).trans (h.block i hi hn)⟩
theorem Rd.turned {w wr w2 : World} {g G : Nat} {a : Option Addr} {len cap m : Nat} (h : Rd wr g a len cap m) (hb : Bytes w g a len) (hw : w.grownBy w2 (some g)) (ht : Turn (fun x => x = G) wr w2) (hG : g ≠ G) : Rd w2 g a len cap m := by
  obtain ⟨⟨p, p1, p2, p3⟩, h1, h2, h3, h4⟩ := h
  exact ⟨⟨p, p1, p2, p3.turned ht hG⟩, h1, h2, h3, hb.kept hw⟩

/-- What the draw of a store holds between its steps. -/
structure DS (w : World) (g : Nat) (ra : Option Addr) (len cap mm pb G : Nat) (us : List V) (wr : World) : Prop where
  res : Blk wr w.heap.size 25 #[.slice none 0 0]
  box : Blk wr pb 25 #[.slice (some ⟨G, 0, none⟩) 4 4]
  row : ∃ cur, ORow wr (w.heap.size + 1) wr.heap.size G us cur
  four : us.length = 4
  few : FewV us
  grown : w.grownBy wr (some g)
  rd : Rd wr g ra len cap mm
theorem store_ne_ver : (25 : TypeId) ≠ 32 := by decide
theorem store_ne_tag2 : (25 : TypeId) ≠ 27 := by decide
section
variable {w wr w2 : World} {g len cap mm pb G : Nat} {ra : Option Addr} {us : List V}
theorem DS.lo (h : DS w g ra len cap mm pb G us wr) : w.heap.size < G := by
  obtain ⟨cur, hr⟩ := h.row
  have := hr.lo
  omega
theorem DS.ne (h : DS w g ra len cap mm pb G us wr) : pb ≠ G := by
  intro e
  obtain ⟨cur, hr⟩ := h.row
  exact store_ne_ver (blk_one (e ▸ h.box) hr.blk)
theorem DS.kept (h : DS w g ra len cap mm pb G us wr) (hgw : g < w.heap.size) (hp : w.heap.size < pb) (hg : wr.grownBy w2 (some g)) {mm' : Nat} (hr : Rd w2 g ra len cap mm') : DS w g ra len cap mm' pb G us w2 := by
  obtain ⟨cur, hrow⟩ := h.row
  exact ⟨h.res.kept hg (by intro e; injection e; omega), h.box.kept hg (by intro e; injection e; omega), ⟨cur, (hrow.turned (P := fun x => x = g) (Turn.of hg (fun x e => by injection e with e; exact e.symm)) (fun x h1 h2 e => by omega)).wide hg.size⟩, h.four, h.few, h.grown.trans hg, hr⟩
theorem DS.drew (h : DS w g ra len cap mm pb G us wr) (hgw : g < w.heap.size) (hp : w.heap.size < pb) : DS w g ra len cap mm pb G us wr.drew :=
  h.kept hgw hp (grown_none (Below.refl _ _).drew) (h.rd.on (Below.refl _ _).drew)
/-- A version has come. -/
theorem DS.added {us' : List V} {cur' : Array Value} (hgw : g < w.heap.size) (hby : Bytes w g ra len) (h : DS w g ra len cap mm pb G us wr) (ht : Turn (fun x => x = G) wr w2) (hr : ORow w2 (w.heap.size + 1) w2.heap.size G us' cur') (hl : us'.length = us.length) (hf : FewV us') : DS w g ra len cap mm pb G us' w2 := by
  have hlo := h.lo
  have hne := h.ne
  have hgr := grown_turn h.grown ht (by omega)
  exact ⟨h.res.turned ht (by omega), h.box.turned ht hne, ⟨cur', hr⟩, hl.trans h.four, hf, hgr, h.rd.turned hby hgr ht (by omega)⟩
/-- The box is written anew, as it was. -/
theorem DS.same (h : DS w g ra len cap mm pb G us wr) (hby : Bytes w g ra len) (hgw : g < w.heap.size) (hp : w.heap.size < pb) : DS w g ra len cap mm pb G us (wr.setCell ⟨pb, 0, none⟩ (.slice (some ⟨G, 0, none⟩) 4 4)) := by
  obtain ⟨cur, hrow⟩ := h.row
  have hne := h.ne
  have ht : Turn (fun x => x = pb) wr (wr.setCell ⟨pb, 0, none⟩ (.slice (some ⟨G, 0, none⟩) 4 4)) := (Turn.refl (fun x => x = pb) wr).set (p := ⟨pb, 0, none⟩) rfl _
  refine ⟨h.res.aside (by simp only; omega) _, h.box.put 0 _, ⟨cur, hrow.blk.aside (by simp only; exact fun e => hne e.symm) _, hrow.lo, by simpa [World.setCell] using hrow.hi, hrow.size, hrow.at', fun i v hi => ?_, hrow.apart⟩, h.four, h.few, grown_set h.grown (p := ⟨pb, 0, none⟩) (by simp only; omega) _, h.rd.set hby hgw h.grown (p := ⟨pb, 0, none⟩) (by simp only; omega) _⟩
  rcases hrow.own i v hi with q | ⟨x, cx, q1, q2, q3, q4, q5, q6⟩
  · exact .inl q
  · exact .inr ⟨x, cx, q1, q2, by simpa [World.setCell] using q3, q4.turned ht (fun e => store_ne_tag2 (blk_one h.box (e ▸ q4))), q5, q6⟩
end

/-- What the draw of a store leaves. -/
def DrawnS4 (w : World) (g : Nat) (ra : Option Addr) (len cap m d : Nat) (e : Ending) (w' : World) : Prop :=
  ∃ (G : Nat) (us : List V) (cur : Array Value), e = .returned (.agg #[.slice (some ⟨G, 0, none⟩) 4 4]) ∧ us.length = 4 ∧ FewV us ∧ ORow w' (w.heap.size + 1) w'.heap.size G us cur ∧ w.grownBy w' (some g) ∧ Rd w' g ra len cap (m + d)

set_option maxRecDepth 100000 in
set_option maxHeartbeats 4000000 in
theorem l20Store_any (w : World) (g : Nat) (a : Option Addr) (len cap m : Nat) (h : Rd w g a len cap m) (hm : m + 200 ≤ 1000000) :
    Calls Try.prog 46 #[.pointer (some ⟨g, 0, none⟩)] w (DrawnS4 w g a len cap m 200) := by
  have hgw := h.inside
  have HBY := hide h.bytes
  have B0 := Blk.made w 25 #[.slice none 0 0]
  have L0 := below_alloc1 w (.cells #[.slice none 0 0] 25)
  go_enter Try.func46, Try.ntmps46
  go_wp2_with fail
  refine (l2New_any _).mono ?_
  rintro e w1 ⟨G, rfl, hG, hB1, hb1⟩
  simp only [World.size_alloc] at hG
  have L1 := L0.trans (hb1.mono L0.size)
  have LA := below_alloc1 w1 (.cells #[.slice (some ⟨G, 0, none⟩) 4 4] 25)
  have z1 : w.heap.size + 1 ≤ w1.heap.size := by have := hb1.size; simpa using this
  have hpb : w.heap.size < w1.heap.size := by omega
  have HD : Hid (DS w g a len cap m w1.heap.size G [v0, v0, v0, v0] (w1.alloc (.cells #[.slice (some ⟨G, 0, none⟩) 4 4] 25))) :=
    ⟨(B0.on hb1).on LA, Blk.made _ _ _, ⟨zero24, (hB1.on LA), hG, Nat.lt_of_lt_of_le hB1.inside LA.size, by simp, zero24_at, fun i v hi => .inl (by rw [v0_mem hi]; rfl), fun i j v v' _ hi _ hn => by rw [v0_mem hi] at hn; exact absurd rfl hn⟩, rfl, fun v hv => by
      have : v = v0 := by simpa using hv
      rw [this]; exact ⟨Nat.zero_le _, (by decide : (ByteArray.mk #[]).size ≤ 16)⟩, grown_none (L1.trans (LA.mono L1.size)), (h.on L1).on LA⟩
  clear B0 L0 h hB1 hb1 L1 LA z1 hG
  go_wp2_with fail
  generalize w1.alloc (.cells #[.slice (some ⟨G, 0, none⟩) 4 4] 25) = W1 at HD ⊢
  obtain ⟨pb, epb⟩ : ∃ pb, pb = w1.heap.size := ⟨_, rfl⟩
  rw [← epb] at HD hpb ⊢
  clear epb
  refine (pick_any _ g a len cap _ _ HD.out.rd (by omega) (by omega)).mono ?_
  rintro e w2 ⟨x, hx, rfl, hg2, h2⟩
  have HD2 := hide (HD.out.kept hgw hpb hg2 h2)
  have hx0 := hx.1
  have hx1 := hx.2 (by omega)
  obtain ⟨xn, rfl⟩ := Int.eq_ofNat_of_zero_le hx0
  have hxn : xn ≤ 6 := by omega
  clear HD hg2 h2 hx hx0 hx1
  go_wp2
  go_loopw [4] (fun i wr => ∃ (n : Nat) (us : List V), n ≤ 6 ∧ i = .int .i64 (n : Int) ∧ Hid (DS w g a len cap (m + 1 + 20 * (6 - n)) pb G us wr)) (fun i _ => (intOf i).toNat)
  case atStart => exact ⟨xn, _, hxn, rfl, by
    have := HD2.out
    exact ⟨this.res, this.box, this.row, this.four, this.few, this.grown, this.rd.more _ (by omega) (by omega)⟩⟩
  case round =>
    obtain ⟨n, us, hn, rfl, HP⟩ := hrel
    clear HD2
    by_cases hlt : 0 < n
    · have i1 : (0 : Int) < (n : Int) := by omega
      have D1 := HP.out.drew hgw hpb
      clear HP
      go_wp2_with fail
      refine wp_region_noPanic ?_
      refine wp_region_held_drew (S := (fun w' => w'.cell? ⟨pb, 0, none⟩ = some (.slice (some ⟨G, 0, none⟩) 4 4) ∧ Blk w' pb 25 #[.slice (some ⟨G, 0, none⟩) 4 4])) (by kernel_rfl) (by exact ⟨D1.box.at 0, D1.box⟩) (fun hHeld => ?_)
      refine take_run 0 (some 12) (v := ?_) rfl rfl (by kernel_rfl) (by kernel_rfl) (by kernel_rfl) (fun _ _ _ h => h) (by rfl) ?_ hHeld ?_
      rotate_left
      · ((intro w hSw); (try dsimp only at hSw); go_simp <;> with_reducible rfl)
      simp only [Act.put, List.setIfInBounds_toArray, List.set_cons_zero, List.set_cons_succ]
      refine take_run 1 (some 13) (v := ?_) rfl rfl (by kernel_rfl) (by kernel_rfl) (by kernel_rfl) (fun _ _ _ h => h) (by rfl) ?_ hHeld ?_
      rotate_left
      · ((intro w hSw); (try dsimp only at hSw); go_simp <;> with_reducible rfl)
      simp only [Act.put, List.setIfInBounds_toArray, List.set_cons_zero, List.set_cons_succ]
      refine take_one 2 (by kernel_rfl) rfl (fun K hK => ?_)
      go_simp
      (refine (l20Ver_any _ g a len cap _ D1.rd (by omega)).mono ?_; rintro e w3 ⟨k, t, u, gb, ts, s, b, rfl, hk, hs, hF, hgb, hg3, h3⟩; have D2 := D1.kept hgw hpb hg3 h3; obtain ⟨kn, rfl⟩ := Int.eq_ofNat_of_zero_le hk.1; have hkn : kn < 4 := (by omega); clear hk; have hl4 := hF.len; have HF := hide hF; have HS := hide hs; clear hF hs)
      try go_wp2_with fail
      refine hK.out _ _ (by exact ⟨D2.box.at 0, D2.box⟩) (fun hHeld => ?_)
      clear hK K
      refine take_one 3 (by kernel_rfl) rfl (fun K hK => ?_)
      go_simp
      (obtain ⟨cur, hrow⟩ := D2.row; have CT := l2Add_any (w.heap.size + 1) w3.heap.size G 4 us cur ⟨(kn : Int), t, u, some ⟨gb, 0, none⟩, 4, ts, s, b⟩ kn w3 hrow (Nat.le_refl _) D2.four rfl hkn (by simp only; omega) (HF.out.past (lo := 0) (g := w3.heap.size) (Nat.zero_le _) (by have := HF.out.inside; omega)).tg; simp only [hl4] at CT; (with_reducible refine CT.mono ?_); clear CT; rintro e w4 ⟨us', cur', rfl, hl', hlike, hrow', hT⟩; have D3 := DS.added hgw HBY.out D2 hT hrow' hl' (fewV_keep D2.few ⟨by simp only; omega, HS.out⟩ hl' hlike); have k4 := D3.box.one)
      try go_wp2_with fail
      refine hK.out _ _ (by exact ⟨D3.box.at 0, D3.box⟩) (fun hHeld => ?_)
      clear hK K
      refine take_one 4 (by kernel_rfl) rfl (fun K hK => ?_)
      go_simp
      refine hK.out _ _ (by exact ⟨(D3.box.put 0 _).at 0, D3.box.put 0 _⟩) (fun hHeld => ?_)
      clear hK K
      refine wpAnyH_done (by kernel_rfl) ?_ _
      refine NoPanic.normal ?_
      have HD4 := hide (D3.same HBY.out hgw hpb)
      clear hHeld D1 D2 D3 k4 hg3 h3 hrow hrow' hT
      go_wp2
      have e1 : (n : Int) - 1 = ((n - 1 : Nat) : Int) := by omega
      refine ⟨⟨n - 1, us', by omega, by rw [e1], ?_⟩, by simp [intOf]; omega⟩
      have := HD4.out
      exact ⟨this.res, this.box, this.row, this.four, this.few, this.grown, this.rd.more _ (by omega) (by omega)⟩
    · have hn0 : n = 0 := by omega
      subst hn0
      clear hlt hn
      have D1 := HP.out
      have k1 := D1.box.one
      have k2 := D1.res.one
      have HD1 := hide D1
      clear D1
      go_wp2
      refine bodyPost_ret (v := .agg #[.slice (some ⟨G, 0, none⟩) 4 4]) (by simp [results, Try.results46, go_sem, k2]) rfl ?_
      obtain ⟨cur, hrow⟩ := HD1.out.row
      have hlo := HD1.out.lo
      exact ⟨G, us, cur, rfl, HD1.out.four, HD1.out.few, (hrow.turned (P := fun x => x = w.heap.size) ((Turn.refl (fun x => x = w.heap.size) _).set (p := ⟨w.heap.size, 0, none⟩) rfl _) (fun x h1 h2 e => by omega)).wide (by simp [World.setCell]), grown_set HD1.out.grown (p := ⟨w.heap.size, 0, none⟩) (Nat.le_refl _) _, (HD1.out.rd.set HBY.out hgw HD1.out.grown (p := ⟨w.heap.size, 0, none⟩) (Nat.le_refl _) _).more _ (by omega) hm⟩
end Go.Proofs.Ytgofeljmpkhkbaa
