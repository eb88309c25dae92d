/- Contract of the model's ChainPass. Condition: sizes that memory holds. -/
import Derived.Test.YtjnloillcgeodaaJChainPass4
namespace Go.Proofs.Ytjnloillcgeodaa
open Go.RowKit Go.Joins
attribute [local go_sem ↓] Go.wp_at_zero Go.wp_at_succ

set_option maxRecDepth 100000 in
set_option maxHeartbeats 4000000 in
theorem specChainPass_any (A : Option Addr) (c : Nat) (ns : List Nd) (k : Int) (w : World) (hn : ns.length ≤ 1048576) (hm : SmN ns) (hC : CgA w A ns) :
    Calls Try.prog 18 #[.agg #[.slice A ns.length c], .int .i64 k] w (AnswerCB w (passN ns k) (passK ns k)) := by
  have S0 := ((Inv.start w).box 25 #[.slice A ns.length c]).box 25 #[.slice none 0 0]
  simp only [World.size_alloc] at S0
  have C0 := hide (l3Ok_any A c ns ((w.alloc (.cells #[.slice A ns.length c] 25)).alloc (.cells #[.slice none 0 0] 25)) hn hm (hC.on S0.below))
  have CC : Hid (∀ W, Below w.heap.size w W → Calls Try.prog 36 #[.agg #[.slice A ns.length c]] W (ClonedC W ns)) := fun W hW => l3Copy_any A c ns W hn hm (hC.on hW)
  have k0 := (S0.nth 1 rfl).one.1
  have HC := hide hC
  clear hm hC
  cases ho : chainB ns
  · have HE := hide (passN_no (k := k) ho)
    rw [ho] at C0
    clear ho
    go_enter Try.func18, Try.ntmps18
    go_wp2_with fail
    with_reducible refine C0.out.mono ?_
    rintro e w1 ⟨rfl, hb1⟩
    have S1 := S0.on hb1
    have q1 := (S1.nth 0 rfl).one
    clear S0 C0 k0
    go_wp2
    refine bodyPost_ret (v := .tuple #[.agg #[.slice none 0 0], .bool false]) (by simp [results, Try.results18, go_sem, q1]) rfl ?_
    exact answerCB_none HE.out (S1.below.setCell (by simp only; omega) _)
  · have HOK := hide ho
    rw [ho] at C0
    clear ho
    obtain ⟨⟨h1, h4⟩, -, -⟩ := chainB_parts HOK.out
    rcases HC.out with h0 | ⟨G0, cur0, rfl, hG0⟩
    · rw [h0] at h1; simp at h1
    have HG0 := hide hG0
    clear hG0
    go_enter Try.func18, Try.ntmps18
    go_wp2_with fail
    with_reducible refine C0.out.mono ?_
    rintro e w1 ⟨rfl, hb1⟩
    have S1 := S0.on hb1
    have k1 := (S1.nth 1 rfl).one.1
    have CR := hide (l3Can_any G0 c ns cur0 k w1 (HG0.out.on S1.below) h4)
    clear S0 C0 k0 hb1
    cases hcan : (decide (0 ≤ k) && canB ns k.toNat)
    · have HE := hide (passN_not (k := k) HOK.out (fun q => by rw [decide_eq_true q.1, q.2] at hcan; cases hcan))
      rw [hcan] at CR
      clear hcan
      go_wp2_with fail
      with_reducible refine CR.out.mono ?_
      rintro e w3 ⟨rfl, hb3⟩
      have S3 := S1.on hb3
      have k3 := (S3.nth 1 rfl).one.1
      have zr := S3.room
      have zb := S3.base
      clear S1 CR k1 hb3
      go_wp2_with fail
      with_reducible refine (CC.out _ S3.below).mono ?_
      rintro e w4 hcl
      obtain ⟨G, xc, us, rfl, hul, hu4, hB, hu1, hgr, hb⟩ := cloned_at hcl HOK.out
      have HUL := hide hul
      have HGR := hide hgr
      have S4 := S3.on hb
      have q4 := (S4.nth 0 rfl).one
      clear S3 k3 hb hul hgr hcl hB
      go_wp2
      refine bodyPost_ret (v := .tuple #[.agg #[.slice (some ⟨G, 0, none⟩) us.length xc], .bool false]) (by simp [results, Try.results18, go_sem, q4]) rfl ?_
      rw [HE.out.1, HE.out.2]
      exact answerCB_row ((HGR.out.aside (p := ⟨w.heap.size + 1, 0, none⟩) (by simp only; omega) _).down zb) HUL.out (S4.below.setCell (by simp only; omega) _)
    · obtain ⟨hk0, hcb⟩ : 0 ≤ k ∧ canB ns k.toNat = true := by
        rw [Bool.and_eq_true, decide_eq_true_eq] at hcan
        exact hcan
      have HE := hide (passN_yes (k := k) HOK.out hk0 hcb)
      obtain ⟨kn, rfl⟩ : ∃ kn : Nat, k = (kn : Int) := ⟨k.toNat, by omega⟩
      simp only [Int.toNat_natCast] at hcb HE
      have HCB := hide hcb
      rw [hcan] at CR
      clear hcan hcb
      go_wp2_with fail
      with_reducible refine CR.out.mono ?_
      rintro e w3 ⟨rfl, hb3⟩
      have S3 := S1.on hb3
      have k3 := (S3.nth 1 rfl).one.1
      have zr := S3.room
      have zb := S3.base
      clear S1 CR k1 hb3
      go_wp2_with fail
      with_reducible refine (CC.out _ S3.below).mono ?_
      rintro e w4 hcl
      obtain ⟨G, xc, us, rfl, hul, hu4, hB, hu1, hgr, hb⟩ := cloned_at hcl HOK.out
      have HUL := hide hul
      have S4 := S3.on hb
      have CA := hide (l3Pass_can w3.heap.size G xc kn us w4 hgr ((canB_like hul kn).trans HCB.out) hu4 hB)
      have q4 := (S4.nth 0 rfl).one
      clear S3 k3 hb hul hgr hcl hB
      go_wp2_with fail
      with_reducible refine CA.out.mono ?_
      rintro e w5 ⟨us', rfl, hul', hg5, hT⟩
      have HUL5 := hide hul'
      have S5 := S4.turned hT (fun g e => by have := e.1; omega) (fun x hx e => by
        have e' : w3.heap.size ≤ x.1 := e.1
        simp only [List.mem_cons, List.not_mem_nil, or_false] at hx
        rcases hx with rfl | rfl <;> simp only at e' <;> omega)
      have HG9 := hide (hg5.aside (p := ⟨w.heap.size + 1, 0, none⟩) (by simp only; omega) (.slice (some ⟨G, 0, none⟩) us.length xc))
      have q5 := (S5.nth 0 rfl).one
      clear S4 q4 CA hul' hg5 hT
      go_wp2
      refine bodyPost_ret (v := .tuple #[.agg #[.slice (some ⟨G, 0, none⟩) us.length xc], .bool true]) (by simp [results, Try.results18, go_sem, q5]) rfl ?_
      rw [HE.out.1, HE.out.2]
      exact answerCB_row (HG9.out.down zb) (nl_trans HUL5.out (goN_like HUL.out kn)) (S5.below.setCell (by simp only; omega) _)
end Go.Proofs.Ytjnloillcgeodaa
