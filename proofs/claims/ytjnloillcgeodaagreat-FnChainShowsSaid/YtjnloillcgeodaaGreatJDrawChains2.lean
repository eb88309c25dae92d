/- Contract of the draw of a chain. Condition: as in Draw. -/
import Derived.Test.YtjnloillcgeodaaGreatJDrawChPure
namespace Go.Proofs.YtjnloillcgeodaaGreat
open Go.RowKit Go.Joins
attribute [local go_sem ↓] Go.wp_at_zero Go.wp_at_succ

theorem GRow.turnLow {base g : Nat} {wr w2 : World} {x : Value} {us : List Nd} (h : GRow base wr x us) (ht : Turn (fun y => y = g) wr w2) (hg : g < base) : GRow base w2 x us := by
  have z := ht.size
  refine ⟨⟨h.row.1, ?_⟩, fun i v hi => ?_, fun i v hi => ?_, h.two, h.apart, by have := h.lo; omega, fun i v hi => ?_⟩
  · rcases h.row.2 with q | ⟨g', cap, cr, h1, h2, h3, h4⟩
    · exact .inl q
    · exact .inr ⟨g', cap, cr, h1, h2, Blk.turned (show Blk wr g' 37 cr from h3) ht (by omega), h4⟩
  · exact ((h.store i v hi).turnF ht (fun y hf e => by have := (h.store i v hi).foot hf; omega)).wide z
  · exact ((h.wait i v hi).turnF ht (fun y hf e => by have := (h.wait i v hi).foot hf; omega)).wide z
  · exact (h.own i v hi).turned ht (fun y hy e => by obtain ⟨_, _, h1, _⟩ := (h.own i v hi).typed y hy; omega) (fun _ _ _ y _ h1 _ e => by omega)
theorem grown_turnP {P : Nat → Prop} {w wr w2 : World} {g : Nat} (h : w.grownBy wr (some g)) (ht : Turn P wr w2) (hP : ∀ y, P y → w.heap.size ≤ y) : w.grownBy w2 (some g) :=
  ⟨ht.os.trans h.os, ht.tape.trans h.tape, ht.output.trans h.output, Nat.le_trans h.size ht.size, fun i hi hn => (ht.block i (Nat.lt_of_lt_of_le hi h.size) (fun e => by have := hP i e; omega)).trans (h.block i hi hn)⟩
theorem Rd.turnedP {P : Nat → Prop} {w wr w2 : World} {g : Nat} {a : Option Addr} {len cap m : Nat} (h : Rd wr g a len cap m) (hb : Bytes w g a len) (hw : w.grownBy w2 (some g)) (ht : Turn P wr w2) (hG : ¬ P g) : Rd w2 g a len cap m := by
  obtain ⟨⟨p, p1, p2, p3⟩, h1, h2, h3, h4⟩ := h
  exact ⟨⟨p, p1, p2, p3.turned ht hG⟩, h1, h2, h3, hb.kept hw⟩
theorem addN_len (us : List Nd) (k : Nat) (v : V) : (addN us k v).length = us.length := by
  unfold addN
  split
  · rw [List.length_set]
  · rfl
theorem goN_len (us : List Nd) (k : Nat) : (goN us k).length = us.length := by
  unfold goN
  split
  · split
    · rw [addN_len, List.length_set]
    · rfl
  · rfl
/-- What the draw of a chain holds between its steps. -/
structure DC (w : World) (g : Nat) (ra : Option Addr) (len cap mm pb G xc : Nat) (us : List Nd) (wr : World) : Prop where
  res : Blk wr w.heap.size 25 #[.slice none 0 0]
  box : Blk wr pb 25 #[.slice (some ⟨G, 0, none⟩) us.length xc]
  row : GRow (w.heap.size + 1) wr (.slice (some ⟨G, 0, none⟩) us.length xc) us
  sh : ShDs us
  grown : w.grownBy wr (some g)
  rd : Rd wr g ra len cap mm
section
variable {w wr w2 : World} {g len cap mm pb G xc : Nat} {ra : Option Addr} {us : List Nd}
theorem DC.kept (h : DC w g ra len cap mm pb G xc us wr) (hgw : g < w.heap.size) (hp : w.heap.size < pb) (hg : wr.grownBy w2 (some g)) {mm' : Nat} (hr : Rd w2 g ra len cap mm') : DC w g ra len cap mm' pb G xc us w2 :=
  ⟨h.res.kept hg (by intro e; injection e; omega), h.box.kept hg (by intro e; injection e; omega), h.row.turnLow (Turn.of hg (fun x e => by injection e with e; exact e.symm)) (by omega), h.sh, h.grown.trans hg, hr⟩
theorem DC.on (h : DC w g ra len cap mm pb G xc us wr) (hgw : g < w.heap.size) (hp : w.heap.size < pb) (hb : Below wr.heap.size wr w2) : DC w g ra len cap mm pb G xc us w2 :=
  h.kept hgw hp (grown_none hb) (h.rd.on hb)
theorem DC.drew (h : DC w g ra len cap mm pb G xc us wr) (hgw : g < w.heap.size) (hp : w.heap.size < pb) : DC w g ra len cap mm pb G xc us wr.drew := h.on hgw hp (Below.refl _ _).drew
theorem DC.more (h : DC w g ra len cap mm pb G xc us wr) {mm' : Nat} (h1 : mm ≤ mm') (h2 : mm' ≤ 1000000) : DC w g ra len cap mm' pb G xc us wr := ⟨h.res, h.box, h.row, h.sh, h.grown, h.rd.more _ h1 h2⟩
/-- The chain is another one now, in a world in which only what it owns has turned; the box is written. -/
theorem DC.put {P : Nat → Prop} {G' xc' : Nat} {us' : List Nd} (h : DC w g ra len cap mm pb G xc us wr) (hgw : g < w.heap.size) (hby : Bytes w g ra len) (hp : w.heap.size < pb) (ht : Turn P wr w2) (hP : ∀ y, P y → w.heap.size + 1 ≤ y) (hPb : ¬ P pb) (hr : GRow (w.heap.size + 1) w2 (.slice (some ⟨G', 0, none⟩) us'.length xc') us') (hs : ShDs us') :
    DC w g ra len cap mm pb G' xc' us' (w2.setCell ⟨pb, 0, none⟩ (.slice (some ⟨G', 0, none⟩) us'.length xc')) := by
  have hgr := grown_turnP h.grown ht (fun y e => by have := hP y e; omega)
  have hres := h.res.turned ht (fun e => by have := hP _ e; omega)
  have hbox := h.box.turned ht hPb
  have hrd := h.rd.turnedP hby hgr ht (fun e => by have := hP _ e; omega)
  exact ⟨hres.aside (by simp only; omega) _, hbox.put 0 _, hr.asideT (p := ⟨pb, 0, none⟩) hbox _, hs, grown_set hgr (p := ⟨pb, 0, none⟩) (by simp only; omega) _, hrd.set hby hgw hgr (p := ⟨pb, 0, none⟩) (by simp only; omega) _⟩
end
theorem Fours.own {w : World} {b : Nat} {k t u : Int} {c : Nat} {s : ByteArray} {x : Bool} {ts : List (Int × Int)} (h : Fours w b ts) : Own1 w 0 w.heap.size ⟨k, t, u, some ⟨b, 0, none⟩, c, ts, s, x⟩ := by
  obtain ⟨cur, e1, e2, e3, e4⟩ := h
  exact .inr ⟨b, cur, rfl, Nat.zero_le _, e1.inside, e1, by simp only; omega, e4⟩
/-- What the draw of a chain leaves. -/
def DrawnC4 (w : World) (g : Nat) (ra : Option Addr) (len cap m d : Nat) (e : Ending) (w' : World) : Prop :=
  ∃ (G xc : Nat) (us : List Nd), e = .returned (.agg #[.slice (some ⟨G, 0, none⟩) us.length xc]) ∧ ShDs us ∧ GRow (w.heap.size + 1) w' (.slice (some ⟨G, 0, none⟩) us.length xc) us ∧ w.grownBy w' (some g) ∧ Rd w' g ra len cap (m + d)

set_option maxRecDepth 100000 in
set_option maxHeartbeats 8000000 in
theorem l20Chain_any (w : World) (g : Nat) (a : Option Addr) (len cap m : Nat) (h : Rd w g a len cap m) (hm : m + 400 ≤ 1000000) :
    Calls Tryz.prog 58 #[.pointer (some ⟨g, 0, none⟩)] w (DrawnC4 w g a len cap m 400) := by
  have hgw := h.inside
  have HBY := hide h.bytes
  have B0 := Blk.made w 25 #[.slice none 0 0]
  have L0 := below_alloc1 w (.cells #[.slice none 0 0] 25)
  go_enter Tryz.func58, Tryz.ntmps58
  go_wp2_with fail
  refine (pick_any _ g a len cap m _ (h.on L0) (by omega) (by omega)).mono ?_
  rintro e w1 ⟨x, hx, rfl, hg1, h1⟩
  have hx0 := hx.1
  have hx1 := hx.2 (by omega)
  obtain ⟨xn, rfl⟩ := Int.eq_ofNat_of_zero_le hx0
  have B1 := B0.kept hg1 (by intro e; injection e; omega)
  have G1 := (grown_none (row := some g) L0).trans hg1
  have z1 : w.heap.size + 1 ≤ w1.heap.size := by have := hg1.size; simpa using this
  have hx3 : xn ≤ 3 := by omega
  clear B0 L0 hg1 hx h hx0 hx1
  go_wp2_with fail
  refine (specChainNewR_any _ _).mono ?_
  rintro e w2 ⟨y, gs, rfl, hgl, hR, hb2⟩
  have hgl' : gs.length = xn + 1 := by
    rw [hgl]
    unfold chN
    rw [if_pos (by omega)]
    omega
  have hGR := hR.grow
  have hSH := shDs_new (gs := gs) (by omega)
  generalize gs.map nd0 = us0 at hGR hSH
  obtain ⟨xa, xc, rfl⟩ := hGR.form
  obtain ⟨_, hRN⟩ := hGR.res
  rcases hRN with h0 | ⟨G, cur, rfl, -⟩
  · have := hSH.1; rw [h0] at this; simp at this
  have LA := below_alloc1 w2 (.cells #[.slice (some ⟨G, 0, none⟩) us0.length xc] 25)
  have z2 := hb2.size
  have hpb : w.heap.size < w2.heap.size := by omega
  have HD : Hid (DC w g a len cap (m + 1) w2.heap.size G xc us0 (w2.alloc (.cells #[.slice (some ⟨G, 0, none⟩) us0.length xc] 25))) :=
    ⟨(B1.on hb2).on LA, Blk.made _ _ _, (hGR.down (by omega)).on LA, hSH, (G1.trans (grown_none hb2)).trans (grown_none LA), (h1.on hb2).on LA⟩
  clear B1 G1 h1 hb2 LA hGR hSH hR hgl hgl'
  go_wp2_with fail
  generalize w2.alloc (.cells #[.slice (some ⟨G, 0, none⟩) us0.length xc] 25) = W2 at HD ⊢
  obtain ⟨pb, epb⟩ : ∃ pb, pb = w2.heap.size := ⟨_, rfl⟩
  rw [← epb] at HD hpb ⊢
  clear epb z2 z1
  refine (pick_any _ g a len cap _ _ HD.out.rd (by omega) (by omega)).mono ?_
  rintro e w3 ⟨x, hx, rfl, hg3, h3⟩
  have HD2 := hide (HD.out.kept hgw hpb hg3 h3)
  have hx0 := hx.1
  have hx1 := hx.2 (by omega)
  obtain ⟨yn, rfl⟩ := Int.eq_ofNat_of_zero_le hx0
  have hyn : yn ≤ 11 := by omega
  clear HD hg3 h3 hx hx0 hx1
  go_wp2
  go_loopw [4] (fun i wr => ∃ (n G xc : Nat) (us : List Nd), n ≤ 11 ∧ i = .int .i64 (n : Int) ∧ Hid (DC w g a len cap (m + 1 + 1 + 30 * (11 - n)) pb G xc us wr)) (fun i _ => (intOf i).toNat)
  case atStart => exact ⟨yn, G, xc, us0, hyn, rfl, HD2.out.more (by omega) (by omega)⟩
  case round =>
    rename World => wo
    clear HD2
    obtain ⟨n, G, xc, us, hn, rfl, HP⟩ := hrel
    by_cases hlt : 0 < n
    · have i1 : (0 : Int) < (n : Int) := by omega
      have e1 : (n : Int) - 1 = ((n - 1 : Nat) : Int) := by omega
      have FIN : Hid (∀ {wx : World} {G' xc' mm' : Nat} {us' : List Nd}, DC w g a len cap mm' pb G' xc' us' wx → mm' ≤ m + 1 + 1 + 30 * (11 - n) + 30 → ∃ (k G'' xc'' : Nat) (us'' : List Nd), k ≤ 11 ∧ (Value.int .i64 ((n : Int) - 1)) = .int .i64 (k : Int) ∧ Hid (DC w g a len cap (m + 1 + 1 + 30 * (11 - k)) pb G'' xc'' us'' wx)) := fun {wx G' xc' mm' us'} hD hmm => ⟨n - 1, G', xc', us', by omega, by rw [e1], hD.more (by omega) (by omega)⟩
      clear e1
      go_wp2_with fail
      refine (pick_any _ g a len cap _ _ HP.out.rd (by omega) (by omega)).mono ?_
      rintro e w4 ⟨x, hx, rfl, hg4, h4⟩
      have HD4 := hide (HP.out.kept hgw hpb hg4 h4)
      clear HP hg4 h4 hx
      by_cases hx0 : x = 0
      · subst hx0
        have HD4x := hide HD4.out.row
        obtain ⟨n0, hn0⟩ : ∃ n0, us[0]? = some n0 := ⟨_, List.getElem?_eq_getElem (by have := HD4.out.sh.1; omega)⟩
        obtain ⟨cur, hcg⟩ := HD4.out.row.cgs (by have := HD4.out.sh.1; omega)
        have CR := hide (l3Room_any G xc us.length us cur n0 w4 hcg hn0 (by have := HD4.out.sh.1; omega))
        have HN0 := hide hn0
        have k4 := HD4.out.box.one.1
        clear hcg hn0 HD4x
        by_cases h6 : n0.ws.length < 6
        · rw [decide_eq_true h6] at CR
          have H6 := hide h6
          clear h6
          go_wp2_with fail
          with_reducible refine CR.out.mono ?_
          rintro e w5 ⟨rfl, hb5⟩
          have D5 := (HD4.out.on hgw hpb hb5).drew hgw hpb
          clear k4 hb5 CR
          go_wp2_with fail
          refine wp_region_noPanic ?_
          refine wp_region_held_drew (S := (fun w' => w'.cell? ⟨pb, 0, none⟩ = some (.slice (some ⟨G, 0, none⟩) us.length xc) ∧ Blk w' pb 25 #[.slice (some ⟨G, 0, none⟩) us.length xc])) (by kernel_rfl) (by exact ⟨D5.box.at 0, D5.box⟩) (fun hHeld => ?_)
          refine take_run 0 (some 31) (v := ?_) rfl rfl (by kernel_rfl) (by kernel_rfl) (by kernel_rfl) (fun _ _ _ h => h) (by rfl) ?_ hHeld ?_
          rotate_left
          · ((intro w hSw); (try dsimp only at hSw); go_simp <;> with_reducible rfl)
          simp only [Act.put, List.setIfInBounds_toArray, List.set_cons_zero, List.set_cons_succ]
          refine take_run 1 (some 32) (v := ?_) rfl rfl (by kernel_rfl) (by kernel_rfl) (by kernel_rfl) (fun _ _ _ h => h) (by rfl) ?_ hHeld ?_
          rotate_left
          · ((intro w hSw); (try dsimp only at hSw); go_simp <;> with_reducible rfl)
          simp only [Act.put, List.setIfInBounds_toArray, List.set_cons_zero, List.set_cons_succ]
          refine take_one 2 (by kernel_rfl) rfl (fun K hK => ?_)
          go_simp
          (refine (l20VerS_any _ g a len cap _ D5.rd (by omega)).mono ?_; rintro e w6 ⟨vk, vt, vu, gb, ts, s, b, rfl, hk, htu, hs, hF, hgb, hg6, hr6⟩; have D6 := D5.kept hgw hpb hg6 hr6; have hl4 := hF.len; have HF := hide hF; have HWV : Hid (wvD ⟨vk, vt, vu, some ⟨gb, 0, none⟩, 4, ts, s, b⟩) := ⟨⟨hk, hl4⟩, htu, hs⟩; clear hF hk htu hs)
          try go_wp2_with fail
          refine hK.out _ _ (by exact ⟨D6.box.at 0, D6.box⟩) (fun hHeld => ?_)
          clear hK K
          refine take_one 3 (by kernel_rfl) rfl (fun K hK => ?_)
          go_simp
          (have CA := l3Add_sh (w.heap.size + 1) G xc 0 us n0 ⟨vk, vt, vu, some ⟨gb, 0, none⟩, 4, ts, s, b⟩ w6 D6.row HN0.out D6.sh.1.2 (D6.sh.2 0 n0 HN0.out).1 (D6.sh.2 0 n0 HN0.out).2.2.1 HWV.out.1 HF.out.own; change Calls _ _ #[_, .int .i64 0, _] _ _ at CA; simp only [hl4] at CA; (with_reducible refine CA.mono ?_); clear CA; rintro e w7 ⟨us', rfl, hul, hgr, hT⟩; have D7 := D6.box.turned hT (touch_no D6.box (by decide) (by decide)); have k7 := D7.one; have HUL := hide hul; have HGR := hide hgr; have HT := hide hT; clear hul hgr hT)
          try go_wp2_with fail
          refine hK.out _ _ (by exact ⟨D7.at 0, D7⟩) (fun hHeld => ?_)
          clear hK K
          refine take_one 4 (by kernel_rfl) rfl (fun K hK => ?_)
          go_simp
          refine hK.out _ _ (by exact ⟨(D7.put 0 _).at 0, D7.put 0 _⟩) (fun hHeld => ?_)
          clear hK K
          refine wpAnyH_done (by kernel_rfl) ?_ _
          refine NoPanic.normal ?_
          have hlen : us'.length = us.length := by rw [HUL.out.1, addN_at HN0.out, List.length_set]
          have D8 := D6.put (us' := us') (G' := G) (xc' := xc) hgw HBY.out hpb HT.out (fun y e => e.1) (touch_no D6.box (by decide) (by decide)) (by rw [hlen]; exact HGR.out) (shDs_like HUL.out (shDs_add D6.sh HWV.out (fun n hn => .inr (by rw [HN0.out] at hn; injection hn with hn; rw [← hn]; exact H6.out))))
          rw [hlen] at D8
          have HD8 := hide D8
          clear D8 D5 D6 D7 k7 hHeld hlen hg6 hr6
          go_wp2
          exact ⟨FIN.out HD8.out (by omega), by simp [intOf]; omega⟩
        · rw [decide_eq_false h6] at CR
          clear h6
          go_wp2_with fail
          with_reducible refine CR.out.mono ?_
          rintro e w5 ⟨rfl, hb5⟩
          have HD5 := hide (HD4.out.on hgw hpb hb5)
          clear k4 hb5 CR
          go_wp2
          exact ⟨FIN.out HD5.out (by omega), by simp [intOf]; omega⟩
      have hb0 : (x == 0) = false := by simpa using hx0
      by_cases hx1 : x = 1
      · subst hx1
        have HD4x := hide HD4.out.row
        obtain ⟨n0, hn0⟩ : ∃ n0, us[0]? = some n0 := ⟨_, List.getElem?_eq_getElem (by have := HD4.out.sh.1; omega)⟩
        obtain ⟨cur, hcg⟩ := HD4.out.row.cgs (by have := HD4.out.sh.1; omega)
        have CR := hide (l3Room_any G xc us.length us cur n0 w4 hcg hn0 (by have := HD4.out.sh.1; omega))
        have HN0 := hide hn0
        have k4 := HD4.out.box.one.1
        clear hcg hn0 HD4x
        by_cases h6 : n0.ws.length < 6
        · rw [decide_eq_true h6] at CR
          have H6 := hide h6
          clear h6
          go_wp2_with fail
          with_reducible refine CR.out.mono ?_
          rintro e w5 ⟨rfl, hb5⟩
          have D5 := (HD4.out.on hgw hpb hb5).drew hgw hpb
          clear k4 hb5 CR
          go_wp2_with fail
          refine wp_region_noPanic ?_
          refine wp_region_held_drew (S := (fun w' => w'.cell? ⟨pb, 0, none⟩ = some (.slice (some ⟨G, 0, none⟩) us.length xc) ∧ Blk w' pb 25 #[.slice (some ⟨G, 0, none⟩) us.length xc])) (by kernel_rfl) (by exact ⟨D5.box.at 0, D5.box⟩) (fun hHeld => ?_)
          refine take_run 0 (some 31) (v := ?_) rfl rfl (by kernel_rfl) (by kernel_rfl) (by kernel_rfl) (fun _ _ _ h => h) (by rfl) ?_ hHeld ?_
          rotate_left
          · ((intro w hSw); (try dsimp only at hSw); go_simp <;> with_reducible rfl)
          simp only [Act.put, List.setIfInBounds_toArray, List.set_cons_zero, List.set_cons_succ]
          refine take_run 1 (some 32) (v := ?_) rfl rfl (by kernel_rfl) (by kernel_rfl) (by kernel_rfl) (fun _ _ _ h => h) (by rfl) ?_ hHeld ?_
          rotate_left
          · ((intro w hSw); (try dsimp only at hSw); go_simp <;> with_reducible rfl)
          simp only [Act.put, List.setIfInBounds_toArray, List.set_cons_zero, List.set_cons_succ]
          refine take_one 2 (by kernel_rfl) rfl (fun K hK => ?_)
          go_simp
          (refine (l20VerS_any _ g a len cap _ D5.rd (by omega)).mono ?_; rintro e w6 ⟨vk, vt, vu, gb, ts, s, b, rfl, hk, htu, hs, hF, hgb, hg6, hr6⟩; have D6 := D5.kept hgw hpb hg6 hr6; have hl4 := hF.len; have HF := hide hF; have HWV : Hid (wvD ⟨vk, vt, vu, some ⟨gb, 0, none⟩, 4, ts, s, b⟩) := ⟨⟨hk, hl4⟩, htu, hs⟩; clear hF hk htu hs)
          try go_wp2_with fail
          refine hK.out _ _ (by exact ⟨D6.box.at 0, D6.box⟩) (fun hHeld => ?_)
          clear hK K
          refine take_one 3 (by kernel_rfl) rfl (fun K hK => ?_)
          go_simp
          (have CA := l3Add_sh (w.heap.size + 1) G xc 0 us n0 ⟨vk, vt, vu, some ⟨gb, 0, none⟩, 4, ts, s, b⟩ w6 D6.row HN0.out D6.sh.1.2 (D6.sh.2 0 n0 HN0.out).1 (D6.sh.2 0 n0 HN0.out).2.2.1 HWV.out.1 HF.out.own; change Calls _ _ #[_, .int .i64 0, _] _ _ at CA; simp only [hl4] at CA; (with_reducible refine CA.mono ?_); clear CA; rintro e w7 ⟨us', rfl, hul, hgr, hT⟩; have D7 := D6.box.turned hT (touch_no D6.box (by decide) (by decide)); have k7 := D7.one; have HUL := hide hul; have HGR := hide hgr; have HT := hide hT; clear hul hgr hT)
          try go_wp2_with fail
          refine hK.out _ _ (by exact ⟨D7.at 0, D7⟩) (fun hHeld => ?_)
          clear hK K
          refine take_one 4 (by kernel_rfl) rfl (fun K hK => ?_)
          go_simp
          refine hK.out _ _ (by exact ⟨(D7.put 0 _).at 0, D7.put 0 _⟩) (fun hHeld => ?_)
          clear hK K
          refine wpAnyH_done (by kernel_rfl) ?_ _
          refine NoPanic.normal ?_
          have hlen : us'.length = us.length := by rw [HUL.out.1, addN_at HN0.out, List.length_set]
          have D8 := D6.put (us' := us') (G' := G) (xc' := xc) hgw HBY.out hpb HT.out (fun y e => e.1) (touch_no D6.box (by decide) (by decide)) (by rw [hlen]; exact HGR.out) (shDs_like HUL.out (shDs_add D6.sh HWV.out (fun n hn => .inr (by rw [HN0.out] at hn; injection hn with hn; rw [← hn]; exact H6.out))))
          rw [hlen] at D8
          have HD8 := hide D8
          clear D8 D5 D6 D7 k7 hHeld hlen hg6 hr6
          go_wp2
          exact ⟨FIN.out HD8.out (by omega), by simp [intOf]; omega⟩
        · rw [decide_eq_false h6] at CR
          clear h6
          go_wp2_with fail
          with_reducible refine CR.out.mono ?_
          rintro e w5 ⟨rfl, hb5⟩
          have HD5 := hide (HD4.out.on hgw hpb hb5)
          clear k4 hb5 CR
          go_wp2
          exact ⟨FIN.out HD5.out (by omega), by simp [intOf]; omega⟩
      have hb1 : (x == 1) = false := by simpa using hx1
      by_cases hx2 : x = 2
      · subst hx2
        have k4 := HD4.out.box.one.1
        by_cases h2 : 2 ≤ us.length
        · have i2 : (us.length : Int) > 1 := by omega
          have D5 := HD4.out.drew hgw hpb
          go_wp2_with fail
          refine wp_region_noPanic ?_
          refine wp_region_held_drew (S := (fun w' => ∃ y, Blk w' pb 25 #[y])) (by kernel_rfl) (by exact ⟨_, D5.box⟩) (fun hHeld => ?_)
          refine take_run 1 (some 42) (v := ?_) rfl rfl (by kernel_rfl) (by kernel_rfl) (by kernel_rfl) (fun _ _ _ h => h) (by rfl) ?_ hHeld ?_
          rotate_left
          · ((intro w hSw); (try dsimp only at hSw); go_simp <;> with_reducible rfl)
          simp only [Act.put, List.setIfInBounds_toArray, List.set_cons_zero, List.set_cons_succ]
          refine take_run 2 (some 43) (v := ?_) rfl rfl (by kernel_rfl) (by kernel_rfl) (by kernel_rfl) (fun _ _ _ h => h) (by rfl) ?_ hHeld ?_
          rotate_left
          · ((intro w hSw); (try dsimp only at hSw); go_simp <;> with_reducible rfl)
          simp only [Act.put, List.setIfInBounds_toArray, List.set_cons_zero, List.set_cons_succ]
          refine wpAnyH_ready (rs := [0, 3]) (by kernel_rfl) (by simp) ?_
          refine AllReadyH.cons rfl (fun K hK => ?_) (AllReadyH.cons rfl (fun K hK => ?_) AllReadyH.nil)
          · skip
            go_simp
            refine hK.out _ _ (by exact hHeld) (fun hHeld => ?_)
            clear hK K
            refine take_one 3 (by kernel_rfl) rfl (fun K hK => ?_)
            go_simp
            refine hK.out _ _ (by exact hHeld) (fun hHeld => ?_)
            clear hK K
            refine take_run 4 (some 45) (v := ?_) rfl rfl (by kernel_rfl) (by kernel_rfl) (by kernel_rfl) (fun _ _ _ h => h) (by rfl) ?_ hHeld ?_
            rotate_left
            · ((intro w hSw); (try dsimp only at hSw); go_simp <;> with_reducible rfl)
            simp only [Act.put, List.setIfInBounds_toArray, List.set_cons_zero, List.set_cons_succ]
            refine take_one 5 (by kernel_rfl) rfl (fun K hK => ?_)
            go_simp
            (refine (pick_any _ g a len cap _ _ D5.rd (by omega) (by have := D5.sh.1; omega)).mono ?_; rintro e w6 ⟨y, hy, rfl, hg6, hr6⟩; have D6 := D5.kept hgw hpb hg6 hr6; have hy0 := hy.1; have hy1 := hy.2 (by omega); have k6 := D6.box.one.1; obtain ⟨yn, rfl⟩ := Int.eq_ofNat_of_zero_le hy0; have hyn : yn < us.length := (by omega); clear hy hy0 hy1)
            try go_wp2_with fail
            refine hK.out _ _ (by exact ⟨_, D6.box⟩) (fun hHeld => ?_)
            clear hK K
            refine take_one 6 (by kernel_rfl) rfl (fun K hK => ?_)
            go_simp
            (have CF := l3Fall_any (w.heap.size + 1) G xc yn us w6 D6.row hyn h2 D6.sh.1.2 (fun i n hi => ⟨(D6.sh.2 i n hi).1, fun v hv => by have := ((D6.sh.2 i n hi).2.1 v hv).2.2.1; omega⟩); (with_reducible refine CF.mono ?_); clear CF; rintro e w7 ⟨G2, cap2, us', rfl, hul, hgr, hb7⟩; have D7 := D6.box.on hb7; have k7 := D7.one; have HUL := hide hul; have HGR := hide hgr; have HB7 := hide hb7; clear hul hgr hb7)
            try go_wp2_with fail
            refine hK.out _ _ (by exact ⟨_, D7⟩) (fun hHeld => ?_)
            clear hK K
            refine take_one 7 (by kernel_rfl) rfl (fun K hK => ?_)
            go_simp
            refine hK.out _ _ (by exact ⟨_, D7.put 0 _⟩) (fun hHeld => ?_)
            clear hK K
            refine wpAnyH_done (by kernel_rfl) ?_ _
            refine NoPanic.normal ?_
            have D8 := D6.put (P := fun _ => False) (us' := us') (G' := G2) (xc' := cap2) hgw HBY.out hpb (Turn.below HB7.out) (fun y e => e.elim) (fun e => e) HGR.out (shDs_like HUL.out (shDs_fall D6.sh h2 hyn))
            have HD8 := hide D8
            clear D8 D5 D6 D7 k7 k6 hHeld hg6 hr6
            go_wp2
            exact ⟨FIN.out HD8.out (by omega), by simp [intOf]; omega⟩
          · skip
            go_simp
            refine hK.out _ _ (by exact hHeld) (fun hHeld => ?_)
            clear hK K
            refine take_run 4 (some 45) (v := ?_) rfl rfl (by kernel_rfl) (by kernel_rfl) (by kernel_rfl) (fun _ _ _ h => h) (by rfl) ?_ hHeld ?_
            rotate_left
            · ((intro w hSw); (try dsimp only at hSw); go_simp <;> with_reducible rfl)
            simp only [Act.put, List.setIfInBounds_toArray, List.set_cons_zero, List.set_cons_succ]
            refine wpAnyH_ready (rs := [0, 5]) (by kernel_rfl) (by simp) ?_
            refine AllReadyH.cons rfl (fun K hK => ?_) (AllReadyH.cons rfl (fun K hK => ?_) AllReadyH.nil)
            · skip
              go_simp
              refine hK.out _ _ (by exact hHeld) (fun hHeld => ?_)
              clear hK K
              refine take_one 5 (by kernel_rfl) rfl (fun K hK => ?_)
              go_simp
              (refine (pick_any _ g a len cap _ _ D5.rd (by omega) (by have := D5.sh.1; omega)).mono ?_; rintro e w6 ⟨y, hy, rfl, hg6, hr6⟩; have D6 := D5.kept hgw hpb hg6 hr6; have hy0 := hy.1; have hy1 := hy.2 (by omega); have k6 := D6.box.one.1; obtain ⟨yn, rfl⟩ := Int.eq_ofNat_of_zero_le hy0; have hyn : yn < us.length := (by omega); clear hy hy0 hy1)
              try go_wp2_with fail
              refine hK.out _ _ (by exact ⟨_, D6.box⟩) (fun hHeld => ?_)
              clear hK K
              refine take_one 6 (by kernel_rfl) rfl (fun K hK => ?_)
              go_simp
              (have CF := l3Fall_any (w.heap.size + 1) G xc yn us w6 D6.row hyn h2 D6.sh.1.2 (fun i n hi => ⟨(D6.sh.2 i n hi).1, fun v hv => by have := ((D6.sh.2 i n hi).2.1 v hv).2.2.1; omega⟩); (with_reducible refine CF.mono ?_); clear CF; rintro e w7 ⟨G2, cap2, us', rfl, hul, hgr, hb7⟩; have D7 := D6.box.on hb7; have k7 := D7.one; have HUL := hide hul; have HGR := hide hgr; have HB7 := hide hb7; clear hul hgr hb7)
              try go_wp2_with fail
              refine hK.out _ _ (by exact ⟨_, D7⟩) (fun hHeld => ?_)
              clear hK K
              refine take_one 7 (by kernel_rfl) rfl (fun K hK => ?_)
              go_simp
              refine hK.out _ _ (by exact ⟨_, D7.put 0 _⟩) (fun hHeld => ?_)
              clear hK K
              refine wpAnyH_done (by kernel_rfl) ?_ _
              refine NoPanic.normal ?_
              have D8 := D6.put (P := fun _ => False) (us' := us') (G' := G2) (xc' := cap2) hgw HBY.out hpb (Turn.below HB7.out) (fun y e => e.elim) (fun e => e) HGR.out (shDs_like HUL.out (shDs_fall D6.sh h2 hyn))
              have HD8 := hide D8
              clear D8 D5 D6 D7 k7 k6 hHeld hg6 hr6
              go_wp2
              exact ⟨FIN.out HD8.out (by omega), by simp [intOf]; omega⟩
            · skip
              go_simp
              (refine (pick_any _ g a len cap _ _ D5.rd (by omega) (by have := D5.sh.1; omega)).mono ?_; rintro e w6 ⟨y, hy, rfl, hg6, hr6⟩; have D6 := D5.kept hgw hpb hg6 hr6; have hy0 := hy.1; have hy1 := hy.2 (by omega); have k6 := D6.box.one.1; obtain ⟨yn, rfl⟩ := Int.eq_ofNat_of_zero_le hy0; have hyn : yn < us.length := (by omega); clear hy hy0 hy1)
              try go_wp2_with fail
              refine hK.out _ _ (by exact ⟨_, D6.box⟩) (fun hHeld => ?_)
              clear hK K
              refine take_one 0 (by kernel_rfl) rfl (fun K hK => ?_)
              go_simp
              refine hK.out _ _ (by exact hHeld) (fun hHeld => ?_)
              clear hK K
              refine take_one 6 (by kernel_rfl) rfl (fun K hK => ?_)
              go_simp
              (have CF := l3Fall_any (w.heap.size + 1) G xc yn us w6 D6.row hyn h2 D6.sh.1.2 (fun i n hi => ⟨(D6.sh.2 i n hi).1, fun v hv => by have := ((D6.sh.2 i n hi).2.1 v hv).2.2.1; omega⟩); (with_reducible refine CF.mono ?_); clear CF; rintro e w7 ⟨G2, cap2, us', rfl, hul, hgr, hb7⟩; have D7 := D6.box.on hb7; have k7 := D7.one; have HUL := hide hul; have HGR := hide hgr; have HB7 := hide hb7; clear hul hgr hb7)
              try go_wp2_with fail
              refine hK.out _ _ (by exact ⟨_, D7⟩) (fun hHeld => ?_)
              clear hK K
              refine take_one 7 (by kernel_rfl) rfl (fun K hK => ?_)
              go_simp
              refine hK.out _ _ (by exact ⟨_, D7.put 0 _⟩) (fun hHeld => ?_)
              clear hK K
              refine wpAnyH_done (by kernel_rfl) ?_ _
              refine NoPanic.normal ?_
              have D8 := D6.put (P := fun _ => False) (us' := us') (G' := G2) (xc' := cap2) hgw HBY.out hpb (Turn.below HB7.out) (fun y e => e.elim) (fun e => e) HGR.out (shDs_like HUL.out (shDs_fall D6.sh h2 hyn))
              have HD8 := hide D8
              clear D8 D5 D6 D7 k7 k6 hHeld hg6 hr6
              go_wp2
              exact ⟨FIN.out HD8.out (by omega), by simp [intOf]; omega⟩
        · have i2 : ¬ ((us.length : Int) > 1) := by omega
          go_wp2
          exact ⟨FIN.out HD4.out (by omega), by simp [intOf]; omega⟩
      have hb2 : (x == 2) = false := by simpa using hx2
      by_cases hx3 : x = 3
      · subst hx3
        have k4 := HD4.out.box.one.1
        by_cases h4 : us.length < 4
        · have i2 : (us.length : Int) < 4 := by omega
          obtain ⟨p, hp⟩ : ∃ p, us.length = p + 1 := ⟨us.length - 1, by have := HD4.out.sh.1; omega⟩
          obtain ⟨nd, hnd⟩ : ∃ n, us[p]? = some n := ⟨_, List.getElem?_eq_getElem (by omega)⟩
          have hsd := HD4.out.sh.2 p nd hnd
          have CJ := hide (l3JoinT_any (w.heap.size + 1) p (some ⟨G, 0, none⟩) xc us nd w4 HD4.out.row hp (by omega) hnd ⟨by rw [hsd.1]; omega, fun v hv => by obtain ⟨_, _, h5, h6⟩ := hsd.2.1 v hv; omega⟩)
          have HND := hide hnd
          clear hsd hnd hp
          go_wp2_with fail
          with_reducible refine CJ.out.mono ?_
          rintro e w5 ⟨G5, cap5, v5, rfl, hl5, hgr5, hT5⟩
          have hne : G ≠ pb := fun e => by
            obtain ⟨cs, q1, _⟩ := HD4.out.row.typed G rfl
            subst e
            exact absurd (blk_one q1 HD4.out.box) (by decide)
          have HGB : Hid (w.heap.size + 1 ≤ G) := by
            obtain ⟨cs, _, q2, _⟩ := HD4.out.row.typed G rfl
            exact q2
          have hPb : ¬ ((some ⟨G, 0, none⟩ : Option Addr) = some ⟨pb, 0, none⟩) := fun e => by
            injection e with e
            injection e with e
            exact hne e
          have B5 := HD4.out.box.turned hT5 hPb
          have k5 := B5.one
          have D8 := HD4.out.put (us' := us ++ [v5]) (G' := G5) (xc' := cap5) hgw HBY.out hpb hT5 (fun y e => by injection e with e; injection e with e; rw [← e]; exact HGB.out) hPb (by rw [List.length_append]; exact hgr5) (shDs_join HD4.out.sh h4 HND.out hl5)
          rw [List.length_append] at D8
          have HD8 := hide D8
          clear D8 B5 CJ hT5 hgr5 hl5 k4 hne hPb
          go_wp2
          exact ⟨FIN.out (us' := us ++ [v5]) HD8.out (by omega), by simp [intOf]; omega⟩
        · have i2 : ¬ ((us.length : Int) < 4) := by omega
          go_wp2
          exact ⟨FIN.out HD4.out (by omega), by simp [intOf]; omega⟩
      have hb3 : (x == 3) = false := by simpa using hx3
      go_wp2_with fail
      refine (pick_any _ g a len cap _ _ HD4.out.rd (by omega) (by omega)).mono ?_
      rintro e w5 ⟨y, hy, rfl, hg5, hr5⟩
      have hy0 := hy.1
      obtain ⟨yn, rfl⟩ := Int.eq_ofNat_of_zero_le hy0
      have HD5 := hide (HD4.out.kept hgw hpb hg5 hr5)
      obtain ⟨cur, hcg⟩ := HD5.out.row.cgs (by have := HD5.out.sh.1; omega)
      have CR := l3Can_any G xc us cur (yn : Int) w5 hcg HD5.out.sh.1.2
      rw [Int.toNat_natCast, decide_eq_true hy0, Bool.true_and] at CR
      have CR := hide CR
      have k5 := HD5.out.box.one.1
      clear hy hy0 hcg hg5 hr5
      cases hcan : canB us yn
      · rw [hcan] at CR
        clear hcan
        go_wp2_with fail
        with_reducible refine CR.out.mono ?_
        rintro e w6 ⟨rfl, hb6⟩
        have HD6 := hide (HD5.out.on hgw hpb hb6)
        clear k5 hb6 CR
        go_wp2
        exact ⟨FIN.out HD6.out (by omega), by simp [intOf]; omega⟩
      · have HCAN := hide hcan
        rw [hcan] at CR
        clear hcan
        go_wp2_with fail
        with_reducible refine CR.out.mono ?_
        rintro e w6 ⟨rfl, hb6⟩
        have HD6 := hide (HD5.out.on hgw hpb hb6)
        have k6 := HD6.out.box.one.1
        have CP := hide (l3Pass_can_sh (w.heap.size + 1) G xc yn us w6 HD6.out.row HCAN.out HD6.out.sh.1.2 (fun i m hi => shN_ofD (HD6.out.sh.2 i m hi)))
        clear k5 hb6 CR
        go_wp2_with fail
        with_reducible refine CP.out.mono ?_
        rintro e w7 ⟨us', rfl, hul, hgr, hT⟩
        have B7 := HD6.out.box.turned hT (touch_no HD6.out.box (by decide) (by decide))
        have k7 := B7.one
        have hlen : us'.length = us.length := by rw [hul.1, goN_len]
        have D8 := HD6.out.put (us' := us') (G' := G) (xc' := xc) hgw HBY.out hpb hT (fun y e => e.1) (touch_no HD6.out.box (by decide) (by decide)) (by rw [hlen]; exact hgr) (shDs_like hul (shDs_go HD6.out.sh HCAN.out))
        rw [hlen] at D8
        have HD8 := hide D8
        clear D8 B7 CP k6 hul hgr hT hlen
        go_wp2
        exact ⟨FIN.out HD8.out (by omega), by simp [intOf]; omega⟩
    · have hn0 : n = 0 := by omega
      subst hn0
      clear hlt hn
      have k1 := HP.out.box.one.1
      have CC := hide (l3Copy_any (some ⟨G, 0, none⟩) xc us wo (by have := HP.out.sh.1; omega) (smN_ofD HP.out.sh) HP.out.row.res.2.cg)
      go_wp2_with fail
      with_reducible refine CC.out.mono ?_
      rintro e w5 ⟨x5, us5, rfl, hul, hgr, hb5⟩
      have D5 := HP.out.on hgw hpb hb5
      have r5 := D5.res.one
      have hz := HP.out.grown.size
      obtain ⟨xa5, xc5, rfl⟩ := hgr.form
      have hsh := shDs_like hul HP.out.sh
      obtain ⟨_, hRN⟩ := hgr.res
      rcases hRN with h0 | ⟨G5, cur5, rfl, -⟩
      · have := hsh.1; rw [h0] at this; simp at this
      have HGR := hide hgr
      have HSH := hide hsh
      have HD5 := hide D5
      clear hul hgr hsh D5 CC k1 hb5
      go_wp2
      refine bodyPost_ret (v := .agg #[.slice (some ⟨G5, 0, none⟩) us5.length xc5]) (by simp [results, Tryz.results58, go_sem, r5]) rfl ?_
      exact ⟨G5, xc5, us5, rfl, HSH.out, (HGR.out.asideT (p := ⟨w.heap.size, 0, none⟩) HD5.out.res _).down (by have := HGR.out.lo; have := HP.out.res.inside; omega), grown_set HD5.out.grown (p := ⟨w.heap.size, 0, none⟩) (Nat.le_refl _) _, (HD5.out.rd.set HBY.out hgw HD5.out.grown (p := ⟨w.heap.size, 0, none⟩) (Nat.le_refl _) _).more _ (by omega) hm⟩
end Go.Proofs.YtjnloillcgeodaaGreat
/- Contract of the draw of a chain, valid or not. Condition: as in Draw. -/
namespace Go.Proofs.YtjnloillcgeodaaGreat
open Go.RowKit Go.Joins
attribute [local go_sem ↓] Go.wp_at_zero Go.wp_at_succ

/-- Nothing, or a slice of versions that no later draw turns. -/
def StIn (w : World) (lo g : Nat) (A : Option Addr) (vs : List V) : Prop := vs = [] ∨ VgIn w lo g A vs
/-- A slice of nodes that no later draw turns. -/
def CgIn (w : World) (lo g : Nat) (A : Option Addr) (ns : List Nd) : Prop :=
  ns = [] ∨ ∃ (G : Nat) (cur : Array Value), A = some ⟨G, 0, none⟩ ∧ lo ≤ G ∧ G ≠ g ∧ Blk w G 37 cur ∧ (∀ (i : Nat) n, ns[i]? = some n → NdAt cur i n) ∧ ∀ (i : Nat) n, ns[i]? = some n → StIn w lo g n.sa n.ss ∧ StIn w lo g n.wa n.ws
def FewN (ns : List Nd) : Prop := ns.length ≤ 4 ∧ ∀ n ∈ ns, (n.ss.length ≤ 4 ∧ FewV n.ss) ∧ (n.ws.length ≤ 7 ∧ FewV n.ws)
section
variable {w w' : World} {lo g : Nat} {A : Option Addr} {vs : List V} {ns : List Nd}
theorem StIn.kept (h : StIn w lo g A vs) (hg : w.grownBy w' (some g)) : StIn w' lo g A vs := h.imp id (fun q => q.kept hg)
theorem StIn.low {lo' : Nat} (h : StIn w lo g A vs) (hl : lo' ≤ lo) : StIn w lo' g A vs := h.imp id (fun q => q.low hl)
theorem StIn.aside (h : StIn w lo g A vs) {p : Addr} (hp : p.block < lo) (u : Value) : StIn (w.setCell p u) lo g A vs := h.imp id (fun q => q.aside hp u)
theorem StIn.vg (h : StIn w lo g A vs) : Vg w w.heap.size A vs := by
  rcases h with h | h
  · exact .inl h
  · exact h.vg
theorem CgIn.kept (h : CgIn w lo g A ns) (hg : w.grownBy w' (some g)) : CgIn w' lo g A ns := by
  rcases h with h | ⟨G, cur, h1, h2, h3, h4, h5, h6⟩
  · exact .inl h
  · exact .inr ⟨G, cur, h1, h2, h3, h4.kept hg (by intro e; injection e with e; exact h3 e.symm), h5, fun i n hi => ⟨(h6 i n hi).1.kept hg, (h6 i n hi).2.kept hg⟩⟩
theorem CgIn.on (h : CgIn w lo g A ns) (hb : Below w.heap.size w w') : CgIn w' lo g A ns := h.kept (grown_none hb)
theorem CgIn.low {lo' : Nat} (h : CgIn w lo g A ns) (hl : lo' ≤ lo) : CgIn w lo' g A ns := by
  rcases h with h | ⟨G, cur, h1, h2, h3, h4, h5, h6⟩
  · exact .inl h
  · exact .inr ⟨G, cur, h1, by omega, h3, h4, h5, fun i n hi => ⟨(h6 i n hi).1.low hl, (h6 i n hi).2.low hl⟩⟩
theorem CgIn.aside (h : CgIn w lo g A ns) {p : Addr} (hp : p.block < lo) (u : Value) : CgIn (w.setCell p u) lo g A ns := by
  rcases h with h | ⟨G, cur, h1, h2, h3, h4, h5, h6⟩
  · exact .inl h
  · exact .inr ⟨G, cur, h1, h2, h3, h4.aside (by omega) u, h5, fun i n hi => ⟨(h6 i n hi).1.aside hp u, (h6 i n hi).2.aside hp u⟩⟩
theorem CgIn.cgA (h : CgIn w lo g A ns) : CgA w A ns := by
  rcases h with h | ⟨G, cur, h1, h2, h3, h4, h5, h6⟩
  · exact .inl h
  · exact .inr ⟨G, cur, h1, h4, h5, fun i n hi => (h6 i n hi).1.vg, fun i n hi => (h6 i n hi).2.vg⟩
end
theorem fewN_sm {ns : List Nd} (h : FewN ns) : SmN ns := fun i n hi => by
  obtain ⟨⟨h1, h2⟩, h3, h4⟩ := h.2 n (List.mem_of_getElem? hi)
  exact ⟨⟨by omega, by omega⟩, fun v hv => by have := h2 v hv; omega, fun v hv => by have := h4 v hv; omega⟩
theorem fewN_of {us : List Nd} (h : ShDs us) : FewN us := ⟨h.1.2, fun n hn => by
  obtain ⟨i, hi⟩ := List.getElem?_of_mem hn
  obtain ⟨h1, h2, h3, h4⟩ := h.2 i n hi
  exact ⟨⟨by omega, fun v hv => ⟨(h2 v hv).2.2.1, (h2 v hv).2.2.2⟩⟩, by omega, fun v hv => ⟨Nat.le_of_eq (h4 v hv).1.2, (h4 v hv).2.2⟩⟩⟩
theorem fewN_set {us : List Nd} (h : FewN us) {k : Nat} {n : Nd} (hn : (n.ss.length ≤ 4 ∧ FewV n.ss) ∧ (n.ws.length ≤ 7 ∧ FewV n.ws)) : FewN (us.set k n) := ⟨by rw [List.length_set]; exact h.1, fun x hx => by
  rcases List.mem_or_eq_of_mem_set hx with hx | rfl
  · exact h.2 x hx
  · exact hn⟩
theorem ResS.stIn {w : World} {B U lo g : Nat} {A : Option Addr} {vs : List V} (h : ResS w B U A vs) (hl : lo ≤ B) (hg : g < lo) : StIn w lo g A vs := by
  rcases h with h | ⟨G, cur, rfl, h⟩
  · exact .inl h
  · exact .inr (h.vgIn hl hg)
theorem GRow.cgIn {base lo g G xc : Nat} {w : World} {us : List Nd} (h : GRow base w (.slice (some ⟨G, 0, none⟩) us.length xc) us) (hl : lo ≤ base) (hg : g < lo) : CgIn w lo g (some ⟨G, 0, none⟩) us := by
  by_cases h0 : us.length = 0
  · exact .inl (List.length_eq_zero_iff.1 h0)
  obtain ⟨cur, hc⟩ := h.cgs (by omega)
  obtain ⟨_, _, h1, _⟩ := h.typed G rfl
  exact .inr ⟨G, cur, rfl, by omega, by omega, hc.blk, hc.at', fun i n hi => ⟨(h.store i n hi).stIn hl hg, (h.wait i n hi).stIn hl hg⟩⟩
theorem ndAt_put1 {cur : Array Value} {us : List Nd} {k j : Nat} {n n' : Nd} {u : Value} (hsz : us.length * 2 ≤ cur.size) (hk : us[k]? = some n) (hat : ∀ (i : Nat) x, us[i]? = some x → NdAt cur i x) (hj : j < 2) (hu : (cellsN n')[j]? = some u) (ho : ∀ m, m < 2 → m ≠ j → (cellsN n')[m]? = (cellsN n)[m]?) :
    ∀ (i : Nat) x, (us.set k n')[i]? = some x → NdAt (cur.setIfInBounds (k * 2 + j) u) i x := fun i x hi => by
  have hkl := (List.getElem?_eq_some_iff.1 hk).1
  by_cases e : i = k
  · subst e
    rw [List.getElem?_set_self hkl] at hi
    injection hi with hi
    subst hi
    have h0 := hat i n hk
    have key : ∀ m, m < 2 → (cur.setIfInBounds (i * 2 + j) u)[i * 2 + m]? = (cellsN n')[m]? := fun m hm => by
      by_cases em : m = j
      · subst em
        rw [Array.getElem?_setIfInBounds_self_of_lt (by omega), hu]
      · rw [Array.getElem?_setIfInBounds_ne (by omega), ho m hm em]
        match m, hm with
        | 0, _ => exact h0.1
        | 1, _ => exact h0.2
    exact ⟨key 0 (by omega), key 1 (by omega)⟩
  · rw [List.getElem?_set_ne (fun e' => e e'.symm)] at hi
    have h0 := hat i x hi
    exact ⟨by rw [Array.getElem?_setIfInBounds_ne (by omega)]; exact h0.1, by rw [Array.getElem?_setIfInBounds_ne (by omega)]; exact h0.2⟩
theorem GRow.size2 {base G xc : Nat} {w : World} {us : List Nd} {cur : Array Value} (h : GRow base w (.slice (some ⟨G, 0, none⟩) us.length xc) us) (hc : Cg w G us cur) : us.length * 2 ≤ cur.size := by
  rcases h.row.2 with ⟨q, _⟩ | ⟨g', cap, cr, q, _, h2, h3, _, h5, _⟩
  · cases q
  · injection q with q1 q2 q3
    injection q1 with q1
    injection q1 with q1
    subst q1 q3
    have := (blk_type (show Blk w G 37 cr from h2) hc.blk).2
    subst this
    omega
/-- The store of a node is another one now. -/
theorem GRow.anyStore {base lo g G xc k c B0 : Nat} {w : World} {us : List Nd} {n : Nd} {a : Option Addr} {vs : List V} (h : GRow base w (.slice (some ⟨G, 0, none⟩) us.length xc) us) (hk : us[k]? = some n) (hl : lo ≤ base) (hg : g < lo) (hG : G < B0) (hB : lo ≤ B0) (hv : VgIn w B0 g a vs) :
    CgIn (w.setCell ⟨G, k * 2, none⟩ (.slice a vs.length c)) lo g (some ⟨G, 0, none⟩) (us.set k ⟨a, c, vs, n.wa, n.wc, n.ws⟩) := by
  have hkl := (List.getElem?_eq_some_iff.1 hk).1
  obtain ⟨cur, hc⟩ := h.cgs (by omega)
  obtain ⟨_, hT, h1, _⟩ := h.typed G rfl
  have ht : Turn (fun y => y = G) w (w.setCell ⟨G, k * 2, none⟩ (.slice a vs.length c)) := (Turn.refl (fun y => y = G) w).set (p := ⟨G, k * 2, none⟩) rfl _
  have hz : (w.setCell ⟨G, k * 2, none⟩ (.slice a vs.length c)).heap.size = w.heap.size := by simp [World.setCell]
  have keep : ∀ {A : Option Addr} {l : List V}, ResS w base w.heap.size A l → StIn (w.setCell ⟨G, k * 2, none⟩ (.slice a vs.length c)) lo g A l := fun hr => (hr.turnF ht (fun y hf e => by
    obtain ⟨T, cs, b1, b2, _⟩ := hr.typed hf
    subst e
    exact b2 (blk_one b1 hT))).stIn hl hg
  refine .inr ⟨G, _, rfl, by omega, by omega, hc.blk.put _ _, ndAt_put1 (j := 0) (h.size2 hc) hk hc.at' (by omega) rfl (fun m h2 hm => by obtain rfl : m = 1 := (by omega); rfl), fun i x hi => ?_⟩
  by_cases e : i = k
  · subst e
    rw [List.getElem?_set_self hkl] at hi
    injection hi with hi
    subst hi
    exact ⟨.inr ((hv.aside (p := ⟨G, i * 2, none⟩) hG _).low hB), keep (h.wait i n hk)⟩
  · rw [List.getElem?_set_ne (fun e' => e e'.symm)] at hi
    exact ⟨keep (h.store i x hi), keep (h.wait i x hi)⟩
theorem PastIn.turned {P : Nat → Prop} {w w' : World} {lo g : Nat} {a : Option Addr} {ts : List (Int × Int)} (h : PastIn w lo g a ts) (ht : Turn P w w') (hp : ∀ y, lo ≤ y → ¬ P y) : PastIn w' lo g a ts := by
  obtain ⟨b, off, ha, hl, hne, hb, hx⟩ := h
  refine ⟨b, off, ha, hl, hne, Nat.lt_of_lt_of_le hb ht.size, fun i x hi => ?_⟩
  have hk : ∀ o : Nat, w'.cell? ⟨b, o, none⟩ = w.cell? ⟨b, o, none⟩ := fun o => World.cell?_of_block (w := w) (w' := w') (a := ⟨b, o, none⟩) (ht.block b hb (hp b hl))
  exact ⟨(hk _).trans (hx i x hi).1, (hk _).trans (hx i x hi).2⟩
/-- One version more waits at a node. -/
theorem GRow.anyWait {base lo g G xc k g2 cap B0 : Nat} {w1 w2 : World} {us : List Nd} {n : Nd} {v : V} (h : GRow base w1 (.slice (some ⟨G, 0, none⟩) us.length xc) us) (hk : us[k]? = some n) (hl : lo ≤ base) (hg : g < lo) (hG : G < B0) (hW : ∀ y, (Value.slice n.wa n.ws.length n.wc).ownBlock = some y → y < B0) (hB : lo ≤ B0) (hv : PastIn w1 B0 g v.a v.ts)
    (hown : w2.ownsRow base 51 6 (.slice (some ⟨g2, 0, none⟩) (n.ws.length + 1) cap) (n.ws.length + 1) (flat6 n.ws ++ cells6 v)) (hgr : w1.grownBy w2 (Value.slice n.wa n.ws.length n.wc).ownBlock) :
    CgIn (w2.setCell ⟨G, k * 2 + 1, none⟩ (.slice (some ⟨g2, 0, none⟩) (n.ws.length + 1) cap)) lo g (some ⟨G, 0, none⟩) (us.set k ⟨n.sa, n.sc, n.ss, some ⟨g2, 0, none⟩, cap, n.ws ++ [v]⟩) := by
  have hkl := (List.getElem?_eq_some_iff.1 hk).1
  obtain ⟨cur, hc⟩ := h.cgs (by omega)
  obtain ⟨_, hT, h1, _⟩ := h.typed G rfl
  have ht : Turn (fun y => (Value.slice n.wa n.ws.length n.wc).ownBlock = some y ∨ y = G) w1 (w2.setCell ⟨G, k * 2 + 1, none⟩ (.slice (some ⟨g2, 0, none⟩) (n.ws.length + 1) cap)) := (Turn.of hgr (fun y e => .inl e)).set (p := ⟨G, k * 2 + 1, none⟩) (.inr rfl) _
  have hz : (w2.setCell ⟨G, k * 2 + 1, none⟩ (.slice (some ⟨g2, 0, none⟩) (n.ws.length + 1) cap)).heap.size = w2.heap.size := by simp [World.setCell]
  have hGw : Blk w2 G 37 cur := hc.blk.kept hgr (by
    intro e
    obtain ⟨cs, b1, _⟩ := (h.own k n hk).typed G e
    exact absurd (blk_one b1 hT) (by decide))
  have keep : ∀ {A : Option Addr} {l : List V}, ResS w1 base w1.heap.size A l → (∀ y, FootS A l y → (Value.slice n.wa n.ws.length n.wc).ownBlock ≠ some y) → StIn (w2.setCell ⟨G, k * 2 + 1, none⟩ (.slice (some ⟨g2, 0, none⟩) (n.ws.length + 1) cap)) lo g A l := fun hr hq => (hr.turnF ht (fun y hf e => by
    rcases e with e | e
    · exact hq y hf e
    · obtain ⟨T, cs, b1, b2, _⟩ := hr.typed hf
      subst e
      exact b2 (blk_one b1 hT))).stIn hl hg
  have hgb : base ≤ g2 ∧ ∃ cr, Blk w2 g2 51 cr := by
    rcases hown.2 with ⟨q, _⟩ | ⟨g', cap', cr, q, q1, q2, _⟩
    · cases q
    · injection q with q
      injection q with q
      injection q with q
      subst q
      exact ⟨q1, cr, q2⟩
  obtain ⟨hgb1, cr, hgb2⟩ := hgb
  have hne : g2 ≠ G := fun e => by
    subst e
    exact absurd (blk_one hgb2 hGw) (by decide)
  refine .inr ⟨G, _, rfl, by omega, by omega, hGw.put _ _, ndAt_put1 (j := 1) (h.size2 hc) hk hc.at' (by omega) (by simp [cellsN]) (fun m h2 hm => by obtain rfl : m = 0 := (by omega); rfl), fun i x hi => ?_⟩
  by_cases e : i = k
  · subst e
    rw [List.getElem?_set_self hkl] at hi
    injection hi with hi
    subst hi
    refine ⟨keep (h.store i n hk) (fun y hf e => h.two i n hk y hf (.inr e)), .inr ⟨g2, 0, rfl, by omega, by omega, by rw [hz]; exact hgb2.inside, fun j x hj => ?_⟩⟩
    have cell : ∀ m, m < 6 → (w2.setCell ⟨G, i * 2 + 1, none⟩ (.slice (some ⟨g2, 0, none⟩) (n.ws.length + 1) cap)).cell? ⟨g2, 0 + j * 6 + m, none⟩ = (cells6 x)[m]? := fun m hm => by
      have hjl : j < n.ws.length + 1 := by have := (List.getElem?_eq_some_iff.1 hj).1; simp at this; omega
      rw [World.cell?_setCell_other _ _ _ _ (by intro e; injection e with e1; exact hne e1.symm), Nat.zero_add, World.ownsRow.cellAt (n := n.ws.length + 1) hown (j * 6 + m) (by omega), ← flat6_snoc, flat6_at _ j x m hj hm]
    refine ⟨⟨cell 0 (by omega), cell 1 (by omega), cell 2 (by omega), cell 3 (by omega), cell 4 (by omega), cell 5 (by omega)⟩, ?_⟩
    rcases snoc_get rfl j x hj with ⟨_, rfl⟩ | ⟨_, hq⟩
    · exact .inr ((hv.turned ht (fun y hy e => by
        rcases e with e | e
        · have := hW y e; omega
        · omega)).low hB)
    · refine Own1.pastIn (B := base) (((h.own i n hk).own j x hq).turned ht (fun y hy _ _ hn e => ?_)) hl hg
      rcases (h.own i n hk).own j x hq with q | ⟨g', _, e1, _, _, q3, _⟩
      · exact hn q
      · rw [hy] at e1
        injection e1 with e1
        injection e1 with e1
        subst e1
        rcases e with e | e
        · obtain ⟨cs, b1, _⟩ := (h.own i n hk).typed y e
          exact absurd (blk_one b1 q3) (by decide)
        · subst e
          exact absurd (blk_one hT q3) (by decide)
  · rw [List.getElem?_set_ne (fun e' => e e'.symm)] at hi
    exact ⟨keep (h.store i x hi) (fun y hf q => h.apart i k x n e hi hk y (.inl hf) (.inr (.inr q))), keep (h.wait i x hi) (fun y hf q => h.apart i k x n e hi hk y (.inr (.inl hf)) (.inr (.inr q)))⟩
/-- What the draw of a chain, valid or not, leaves. -/
def DrawnC (w : World) (g : Nat) (ra : Option Addr) (len cap m d : Nat) (e : Ending) (w' : World) : Prop :=
  ∃ (A : Option Addr) (c : Nat) (ns : List Nd), e = .returned (.agg #[.slice A ns.length c]) ∧ FewN ns ∧ CgIn w' w.heap.size g A ns ∧ w.grownBy w' (some g) ∧ Rd w' g ra len cap (m + d)
/-- Its end: the result's block is written. -/
theorem drawnC_fin {w wr : World} {g len cap mm m d c : Nat} {ra A : Option Addr} {ns : List Nd} (hgw : g < w.heap.size) (hby : Bytes w g ra len) (hf : FewN ns) (hc : CgIn wr (w.heap.size + 1) g A ns) (hg : w.grownBy wr (some g)) (hr : Rd wr g ra len cap mm) (hmm : mm ≤ m + d) (hm : m + d ≤ 1000000) (x : Value) :
    DrawnC w g ra len cap m d (.returned (.agg #[.slice A ns.length c])) (wr.setCell ⟨w.heap.size, 0, none⟩ x) :=
  ⟨A, c, ns, rfl, hf, (hc.aside (p := ⟨w.heap.size, 0, none⟩) (by simp only; omega) x).low (by omega), grown_set hg (p := ⟨w.heap.size, 0, none⟩) (Nat.le_refl _) _, (hr.set hby hgw hg (p := ⟨w.heap.size, 0, none⟩) (Nat.le_refl _) _).more _ hmm hm⟩
end Go.Proofs.YtjnloillcgeodaaGreat
