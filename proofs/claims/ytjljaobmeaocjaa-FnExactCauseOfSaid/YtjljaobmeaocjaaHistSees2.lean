/- Contract of the model's HistSees. Condition: at most 1048576 records, a slice that is no longer than its room. -/
import Derived.Test.YtjljaobmeaocjaaHistSpec5
import Derived.Test.YtjljaobmeaocjaaHistSees
namespace Go.Proofs.Ytjljaobmeaocjaa
open Go.RowKit Go.Joins
attribute [local go_sem ↓] Go.wp_at_zero Go.wp_at_succ

/-- What was seen behind each record, in a row that a call has made. -/
structure SR (w : World) (gs : Nat) (l : List (D × T4)) (wr : World) : Prop where
  below : Below w.heap.size w wr
  lo : w.heap.size < gs
  hi : gs < wr.heap.size
  row : ∀ (i : Nat) x, l[i]? = some x → PV w.heap.size wr (wr.cell? ⟨gs, i, none⟩) x.2
section
variable {w wr w2 : World} {gs : Nat} {l : List (D × T4)}
theorem SR.on (h : SR w gs l wr) (hb : Below wr.heap.size wr w2) : SR w gs l w2 :=
  ⟨h.below.trans (hb.mono h.below.size), h.lo, Nat.lt_of_lt_of_le h.hi hb.size, fun i x hx => by
    rw [hb.cell (p := ⟨gs, i, none⟩) h.hi]
    exact (h.row i x hx).tk (.below hb)⟩
theorem SR.drew (h : SR w gs l wr) : SR w gs l wr.drew := ⟨h.below.drew, h.lo, h.hi, fun i x hx => (h.row i x hx).tk (.drew _)⟩
theorem SR.alloc (h : SR w gs l wr) (o : Obj) : SR w gs l (wr.alloc o) := h.on (below_alloc1 wr o)
theorem SR.aside (h : SR w gs l wr) {p : Addr} {T : TypeId} {cs : Array Value} (hb : Blk wr p.block T cs) (hT : T ≠ 43) (hp : w.heap.size ≤ p.block) (hq : gs ≠ p.block) (u : Value) : SR w gs l (wr.setCell p u) :=
  ⟨h.below.setCell hp u, h.lo, by simpa [World.setCell] using h.hi, fun i x hx => by
    have e : (wr.setCell p u).cell? ⟨gs, i, none⟩ = wr.cell? ⟨gs, i, none⟩ := by
      have := Below.heap_setCell wr p u gs hq
      unfold World.cell?
      simp only [this]
    rw [e]
    exact (h.row i x hx).tk (.set hb hT u)⟩
theorem SR.swap {a b : Value} (h : SR w gs l (wr.alloc (.cells #[a] 35))) (hw : w.heap.size ≤ wr.heap.size) (hg : gs ≠ wr.heap.size) : SR w gs l (wr.alloc (.cells #[b] 35)) := by
  have := h.aside (p := ⟨wr.heap.size, 0, none⟩) (Blk.made _ _ _) past_ne_tag hw hg b
  rw [World.setCell_alloc_new] at this
  simpa using this
end
theorem PV.low {B B' : Nat} {w : World} {o : Option Value} {x : T4} (h : PV B w o x) (hB : B' ≤ B) : PV B' w o x := by
  obtain ⟨g, c, h1, h2, h3⟩ := h
  exact ⟨g, c, h1, h2, Nat.le_trans hB h3⟩
theorem last_take {s : Int} {l : List (D × T4)} {k : Nat} {x : D × T4} (hx : l[k]? = some x) : lastSeen s (l.take (k + 1)) = if ((x.1.1 == s) && (x.1.2.1 != 1)) = true then x.2 else lastSeen s (l.take k) := by
  rw [List.take_add_one, hx]
  exact lastSeen_snoc s _ x
theorem last_no {s : Int} {l : List (D × T4)} {k : Nat} {x : D × T4} (hx : l[k]? = some x) (h : ((x.1.1 == s) && (x.1.2.1 != 1)) = false) : lastSeen s (l.take (k + 1)) = lastSeen s (l.take k) := by
  rw [last_take hx, h]
  rfl
theorem last_yes {s : Int} {l : List (D × T4)} {k : Nat} {x : D × T4} (hx : l[k]? = some x) (h : ((x.1.1 == s) && (x.1.2.1 != 1)) = true) : lastSeen s (l.take (k + 1)) = x.2 := by
  rw [last_take hx, h]
  rfl
/-- In the loop: the box of the answer, what was seen last so far. -/
def SeeB (w : World) (p gs : Nat) (l : List (D × T4)) (v : T4) (wr : World) : Prop :=
  ∃ g cp, Blk wr p 35 #[.slice (some ⟨g, 0, none⟩) 4 cp] ∧ TB wr g v ∧ w.heap.size ≤ g ∧ SR w gs l wr ∧ Inv w (w.heap.size + 1) [(w.heap.size, 35, #[.slice none 0 0])] wr
set_option maxRecDepth 100000 in
set_option maxHeartbeats 8000000 in
theorem specHistSees_any (a : Option Addr) (c : Nat) (ds : List D) (s : Int) (w : World) (hn : ds.length ≤ 1048576) (hc : ds.length ≤ c) (hd : Dg w w.heap.size a ds) :
    Calls Try.prog 34 #[.slice a ds.length c, .int .i64 s] w (Answer w (seesL ds s)) := by
  have S0 := (Inv.start w).box 35 #[.slice none 0 0]
  simp only [World.size_alloc] at S0
  cases ho : histOk ds
  · have HO := hide ho
    have HE := hide (seesL_none (ds := ds) (s := s) (by rw [ho]; rfl))
    clear ho
    go_enter Try.func34, Try.ntmps34
    go_wp2_with fail
    generalize w.alloc (.cells #[.slice none 0 0] 35) = W at S0 ⊢
    refine (l6Ok_any a c ds W hn hc ((hd.on S0.below).up S0.base)).mono ?_
    rintro e w1 ⟨rfl, hb1⟩
    rw [HO.out]
    have S1 := S0.on hb1
    have q1 := (S1.nth 0 rfl).one
    clear S0
    go_wp2
    refine bodyPost_ret (v := .agg #[.slice none 0 0]) (by simp [results, Try.results34, go_sem, q1]) rfl ?_
    exact answer_nil HE.out (S1.below.setCell (by simp) _)
  · have HO := hide ho
    have HF := hide (histOk_form ho)
    obtain ⟨st, hst⟩ := histOk_runs ho
    have HST := hide hst
    clear ho hst
    cases hi : inB s 0 3
    · have HI := hide hi
      have HE := hide (seesL_none (ds := ds) (s := s) (by rw [hi]; simp))
      clear hi
      go_enter Try.func34, Try.ntmps34
      go_wp2_with fail
      generalize w.alloc (.cells #[.slice none 0 0] 35) = W at S0 ⊢
      refine (l6Ok_any a c ds W hn hc ((hd.on S0.below).up S0.base)).mono ?_
      rintro e w1 ⟨rfl, hb1⟩
      rw [HO.out]
      have S1 := S0.on hb1
      have q1 := (S1.nth 0 rfl).one
      clear S0
      go_wp2_with fail
      refine (l1In_B s 0 3 _).mono ?_
      rintro e w2 ⟨rfl, rfl⟩
      rw [HI.out]
      go_wp2
      refine bodyPost_ret (v := .agg #[.slice none 0 0]) (by simp [results, Try.results34, go_sem, q1]) rfl ?_
      exact answer_nil HE.out (S1.below.setCell (by simp) _)
    · have HI := hide hi
      obtain ⟨h0, h3⟩ := inB_t hi
      have HE := hide ((seesL_some HO.out h0 h3 HST.out).trans (HST.out.last HF.out s h0 h3))
      have HL4 : Hid ((lastSeen s st.2).length = 4) := by
        unfold Hid
        rw [← HST.out.last HF.out s h0 h3]
        exact viewOf_len HST.out.ok s
      clear hi
      go_enter Try.func34, Try.ntmps34
      go_wp2_with fail
      generalize w.alloc (.cells #[.slice none 0 0] 35) = W at S0 ⊢
      refine (l6Ok_any a c ds W hn hc ((hd.on S0.below).up S0.base)).mono ?_
      rintro e w1 ⟨rfl, hb1⟩
      rw [HO.out]
      have S1 := S0.on hb1
      have q1 := (S1.nth 0 rfl).one
      clear S0
      go_wp2_with fail
      refine (l1In_B s 0 3 _).mono ?_
      rintro e w2 ⟨rfl, rfl⟩
      rw [HI.out]
      go_wp2_with fail
      refine (l6Walk_any a c ds w1 HF.out hc ((hd.on S1.below).up S1.base)).mono ?_
      rintro e w3 ⟨k, st', gs, cap, rfl, hk, hR, hlen, g1, g2, g3, hb3⟩
      have hst : st' = st := by
        have h1 : farH ds = ds.length := far_all HST.out
        rw [← hk, h1, List.take_length] at hR
        have h2 := HST.out
        unfold Runs at hR h2
        rw [h2] at hR
        injection hR with hR
        exact hR.symm
      subst hst
      have hkl : k = ds.length := by rw [← hk]; exact far_all HST.out
      subst hkl
      have z1 := S1.base
      have S3 := S1.on hb3
      have SR0 : SR w gs st'.2 w3 := ⟨S3.below, by have := S1.room; omega, g2, fun i x hx => (g3 i x hx).low z1⟩
      have hrec := HST.out.recs
      have HREC := hide hrec
      have HLEN := hide hlen
      clear hk hR g3 hb3 S1 q1 hrec hlen hb1
      generalize hnn : ds.length = n at *
      have HN := hide hnn
      clear hnn
      have z3 := S3.room
      go_wp2_with fail
      refine (l1None_new w3).mono ?_
      rintro e w5 ⟨g5, c5, rfl, hg5, htb5, hb5⟩
      have S5 := (S3.on hb5).alloc (.cells #[.slice (some ⟨g5, 0, none⟩) 4 c5] 35)
      have R5 := (SR0.on hb5).alloc (.cells #[.slice (some ⟨g5, 0, none⟩) 4 c5] 35)
      have z5 := hb5.size
      have HB0 : Hid (SeeB w w5.heap.size gs st'.2 z4 _) := ⟨g5, c5, Blk.made _ _ _, htb5.tk (.alloc _ _), by have := S3.base; omega, R5, S5⟩
      obtain ⟨p, hp⟩ : ∃ p, p = w5.heap.size := ⟨_, rfl⟩
      have hpw : w.heap.size < p := by omega
      have hgp : gs ≠ p := by omega
      rw [← hp] at HB0
      have HP := hide hp
      clear S3 SR0 z3 g1 g2 htb5 hb5 S5 R5 hp
      go_wp2
      rw [← HP.out]
      go_loopw [8] (fun i wr => ∃ k : Nat, k ≤ n ∧ i = .int .i64 (k : Int) ∧ Hid (SeeB w p gs st'.2 (lastSeen s (st'.2.take k)) wr)) (fun i _ => n - (intOf i).toNat)
      case atStart => exact ⟨0, Nat.zero_le _, rfl, HB0.out⟩
      case round =>
      obtain ⟨k, hk, rfl, hB⟩ := hrel
      clear HB0
      obtain ⟨g, cp, hBp, hT, hg, hS, hI⟩ := hB.out
      clear hB
      by_cases hlt : k < n
      · rcases hd with hz | ⟨b, off, rfl, hb, hx⟩
        · have := HN.out; subst hz; simp at this; omega
        · obtain ⟨x, hxk⟩ : ∃ x, st'.2[k]? = some x := ⟨_, List.getElem?_eq_getElem (by have := HLEN.out; omega)⟩
          have hdk : ds[k]? = some x.1 := by rw [← HREC.out]; exact recs_at hxk
          have F0 := hide ((hx k _ hdk).on hb hS.below)
          obtain ⟨gx, cx, hcell, htx, hgx⟩ := hS.row k x hxk
          have HXK := hide hxk
          clear hxk hdk hx
          obtain ⟨⟨x0, x1, x2, x3, x4⟩, xv⟩ := x
          simp only at htx F0
          have HCELL := hide hcell
          have HTX := hide htx
          clear hcell htx
          have i1 : (0 : Int) ≤ (k : Int) := by omega
          have i2 : (k : Int) < (n : Int) := by omega
          have zz := hS.below.size
          have hbw : b < wr.heap.size := by omega
          have hgw := hS.hi
          cases c0 : (x0 == s)
          · have HNO : Hid (lastSeen s (st'.2.take (k + 1)) = lastSeen s (st'.2.take k)) := last_no HXK.out (by simp [c0])
            have hB2 : Hid (SeeB w p gs st'.2 (lastSeen s (st'.2.take k)) wr) := ⟨g, cp, hBp, hT, hg, hS, hI⟩
            clear hBp hT hS hI
            obtain ⟨f0, f1, f2, f3, f4⟩ := F0.out
            go_wp2
            exact ⟨⟨k + 1, by omega, by go_num, by unfold Hid; rw [HNO.out]; exact hB2.out⟩, by simp [intOf]; omega⟩
          · cases c1 : (x1 != 1)
            · have HNO : Hid (lastSeen s (st'.2.take (k + 1)) = lastSeen s (st'.2.take k)) := last_no HXK.out (by simp only; rw [c0, c1]; rfl)
              have hB2 : Hid (SeeB w p gs st'.2 (lastSeen s (st'.2.take k)) wr) := ⟨g, cp, hBp, hT, hg, hS, hI⟩
              clear hBp hT hS hI
              obtain ⟨f0, f1, f2, f3, f4⟩ := F0.out
              go_wp2
              exact ⟨⟨k + 1, by omega, by go_num, by unfold Hid; rw [HNO.out]; exact hB2.out⟩, by simp [intOf]; omega⟩
            · have HYES : Hid (lastSeen s (st'.2.take (k + 1)) = xv) := last_yes HXK.out (by simp only; rw [c0, c1]; rfl)
              have d2 := HTX.out
              have d3 := hBp
              have d4 := hS
              have d5 := hI
              obtain ⟨f0, f1, f2, f3, f4⟩ := F0.out
              have d1 := HCELL.out
              have kp := d3.one
              have HD2 := hide (d2.tk (.set (p := ⟨p, 0, none⟩) d3 past_ne_tag (.slice (some ⟨gx, 0, none⟩) 4 cx)))
              have D3 := d3.put 0 (.slice (some ⟨gx, 0, none⟩) 4 cx)
              have D4 := d4.aside (p := ⟨p, 0, none⟩) d3 past_ne_tag (by simp only; omega) hgp (.slice (some ⟨gx, 0, none⟩) 4 cx)
              have D5 := d5.set (p := ⟨p, 0, none⟩) (by simp only; omega) (by simp only; omega) (.slice (some ⟨gx, 0, none⟩) 4 cx)
              have HB3 : Hid (SeeB w p gs st'.2 xv _) := ⟨gx, cx, D3, HD2.out, hgx, D4, D5⟩
              clear d2 d3 d4 d5 D3 D4 D5 HD2 F0 HCELL HTX hBp hT hS hI
              go_wp2
              exact ⟨⟨k + 1, by omega, by go_num, by unfold Hid; rw [HYES.out]; exact HB3.out⟩, by simp [intOf]; omega⟩
      · have hkn : k = n := by omega
        subst hkn
        clear hlt
        have htk : st'.2.take k = st'.2 := List.take_of_length_le (by have := HLEN.out; omega)
        rw [htk] at hT
        have q1 := (hI.nth 0 rfl).one
        have kp := hBp.one
        have HT := hide hT
        have HI5 := hide hI
        clear htk hT hS hI
        go_wp2
        refine bodyPost_ret (v := .agg #[.slice (some ⟨g, 0, none⟩) 4 cp]) (by simp [results, Try.results34, go_sem, q1]) rfl ?_
        rw [HE.out]
        obtain ⟨cur, e1, e2, e3, e4⟩ := HT.out.tk (.set (p := ⟨w.heap.size, 0, none⟩) (HI5.out.nth 0 rfl) past_ne_tag (.slice (some ⟨g, 0, none⟩) 4 cp))
        exact answer_four e3 hg e1 e2 e4 (HI5.out.below.setCell (by simp) _)
end Go.Proofs.Ytjljaobmeaocjaa
