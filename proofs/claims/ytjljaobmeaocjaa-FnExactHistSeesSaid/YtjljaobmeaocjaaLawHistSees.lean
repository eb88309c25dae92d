/- The law FnExactHistSees holds: for every list of records and every number the program's HistSees answers as the model's, leaves its argument as it was, and answers in memory of its own. No condition. -/
import Derived.Test.YtjljaobmeaocjaaLiftD
import Derived.Test.YtjljaobmeaocjaaDoneMark
import Derived.Test.YtjljaobmeaocjaaHistSees2
namespace Go.Proofs.Ytjljaobmeaocjaa.LawHistSees
open Go.ChangeShapes Go.WideShapes Go.ChangeAt Go.RowKit Go.Joins

set_option maxRecDepth 100000 in
set_option maxHeartbeats 8000000 in
theorem walk (a : Option Addr) (c : Nat) (ds : List D) (s : Int) (w : World) (hd : Dg w w.heap.size a ds) (hl : ds.length ≤ 9223372036854775807) :
    Calls Try.prog 10 #[.slice a ds.length c, .int .i64 s] w fun e w' => e = .returned (.bool true) ∧ Below w.heap.size w w' := by
  by_cases hn : ds.length ≤ 1048576
  · have hp : ¬ ((1048576 : Int) - (ds.length : Int) < 0) := by omega
    have hrl := seesL_len ds s
    go_enter Try.func10, Try.ntmps10
    go_wp2_with fail
    refine (szDoneS_fits a ds.length c 1048576 _ (by omega) (by omega)).mono ?_
    rintro e w1 ⟨rfl, rfl⟩
    go_wp2_with fail
    refine (toDoneS_any a c ds _ hn hd).mono ?_
    rintro e w2 ⟨g2, cur2, rfl, hg2, hB2, hsz2, hcur2, hb2⟩
    have T2 : Dg w2 w2.heap.size (some ⟨g2, 0, none⟩) ds := Dg.of hB2 hB2.inside hcur2
    clear hcur2
    go_wp2_with fail
    refine (specHistSees_any _ _ ds s _ hn (Nat.le_refl _) T2).mono ?_
    rintro e w3 ⟨A3, cap3, rfl, R3, hb3⟩
    have L3 := hb2.trans (hb3.mono hb2.size)
    have z2 := hb2.size
    have z3 := hb3.size
    have I0 : Inv w w3.heap.size [] w3 := ⟨L3, Nat.le_refl _, by simp⟩
    have I1 := I0.box 35 #[.slice A3 (seesL ds s).length cap3]
    have R4 := R3.alloc (.cells #[.slice A3 (seesL ds s).length cap3] 35)
    clear T2 hB2 hb2 hb3 L3 I0 R3
    go_wp2_with fail
    generalize hW : w3.alloc (.cells #[.slice A3 (seesL ds s).length cap3] 35) = W at I1 R4 ⊢
    have zW : w3.heap.size < W.heap.size := by rw [← hW]; simp
    clear hW
    refine (toDoneS_any a c ds _ hn ((hd.on I1.below).up I1.base)).mono ?_
    rintro e w4 ⟨g4, cur4, rfl, hg4, hB4, hsz4, hcur4, hb4⟩
    have z4' := hb4.size
    have I2 := (I1.on hb4).add (by have := I1.base; omega) hB4
    have R5 := R4.on hb4
    have in4 := hB4.inside
    have HC4 := hide hcur4
    clear hcur4 hb4 I1 R4 hB4
    go_wp2_with fail
    refine (implHistSees_any _ _ ds s w4 hn (Dg.of (I2.nth 0 rfl) in4 HC4.out)).mono ?_
    rintro e w5 ⟨A5, cap5, rfl, Q5, hb5⟩
    have z5 := hb5.size
    have I3 := ((I2.on hb5).top).box 35 #[.slice A5 (seesL ds s).length cap5]
    have R6 := (R5.on hb5).alloc (.cells #[.slice A5 (seesL ds s).length cap5] 35)
    have Q6 := Q5.alloc (.cells #[.slice A5 (seesL ds s).length cap5] 35)
    have k3 := (I3.nth 2 rfl).one.1
    clear I2 R5 Q5 hb5
    go_wp2_with fail
    generalize hW5 : w5.alloc (.cells #[.slice A5 (seesL ds s).length cap5] 35) = W5 at I3 R6 Q6 k3 ⊢
    have zW5 : w5.heap.size < W5.heap.size := by rw [← hW5]; simp
    clear hW5
    refine (eqPast_any _ _ _ _ (seesL ds s) (seesL ds s) W5 (by omega) (by omega) Q6.tg R6.tg).mono ?_
    rintro e w6 ⟨rfl, hb6⟩
    rw [decide_eq_true rfl]
    have z6 := hb6.size
    have I4 := (I3.on hb6).top
    have R7 := R6.on hb6
    have Q7 := Q6.on hb6
    clear I3 R6 Q6 k3 hb6
    go_wp2_with fail
    refine (toDoneS_any a c ds _ hn ((hd.on I4.below).up I4.base)).mono ?_
    rintro e w7 ⟨g7, cur7, rfl, hg7, hB7, hsz7, hcur7, hb7⟩
    have T7 : Dg w7 w7.heap.size (some ⟨g7, 0, none⟩) ds := Dg.of hB7 hB7.inside hcur7
    have z7 := hb7.size
    have I5 := (I4.on hb7).top
    have R8 := R7.on hb7
    have Q8 := Q7.on hb7
    clear I4 R7 Q7 hb7 hcur7 hB7
    go_wp2_with fail
    refine (eqDoneS_same _ _ _ _ ds _ hn (Dg.of (I5.nth 1 rfl) (I5.nth 1 rfl).inside HC4.out) T7).mono ?_
    rintro e w8 ⟨rfl, hb8⟩
    have z8 := hb8.size
    have I6 := (I5.on hb8).top
    have R9 := R8.on hb8
    have Q9 := Q8.on hb8
    clear I5 R8 Q8 hb8 T7
    go_wp2_with fail
    refine (markDoneS_any g4 _ ds.length _ cur4 1 _ (I6.nth 1 rfl) (by omega) hn (by omega) (by omega)).mono ?_
    rintro e w9 ⟨rfl, -, hG9⟩
    have R10 := R9.keep hG9 (fun g e => by injection e with e; omega)
    have Q10 := Q9.keep hG9 (fun g e => by injection e with e; omega)
    have I7 : Inv w w8.heap.size [(w5.heap.size, 35, #[.slice A5 (seesL ds s).length cap5]), (w3.heap.size, 35, #[.slice A3 (seesL ds s).length cap3])] w9 := (I6.sub (bs' := [(w5.heap.size, 35, #[.slice A5 (seesL ds s).length cap5]), (w3.heap.size, 35, #[.slice A3 (seesL ds s).length cap3])]) (fun x hx => by
      simp only [List.mem_cons, List.not_mem_nil, or_false] at hx ⊢
      rcases hx with rfl | rfl <;> simp)).part hG9 (fun g e => by injection e with e; have := I6.base; omega) (fun x hx g e => by
      simp only [List.mem_cons, List.not_mem_nil, or_false] at hx
      injection e with e
      rcases hx with rfl | rfl <;> simp only <;> omega)
    have z9 := hG9.size
    have hp9 : ¬ ((1 : Int) + 5 * (ds.length : Int) < 0) := by omega
    have k7 := (I7.nth 0 rfl).one.1
    have k8 := (I7.nth 1 rfl).one.1
    clear R9 Q9 I6 hG9 HC4
    go_wp2_with fail
    refine (eqPast_any _ _ _ _ (seesL ds s) (seesL ds s) w9 (by omega) (by omega) Q10.tg R10.tg).mono ?_
    rintro e w10 ⟨rfl, hb10⟩
    rw [decide_eq_true rfl]
    have z10 := hb10.size
    have I8 := (I7.on hb10).top
    have R11 := R10.on hb10
    have Q11 := Q10.on hb10
    clear I7 R10 Q10 hb10 k7 k8
    have k7 := (I8.nth 0 rfl).one.1
    go_wp2_with fail
    refine (markRes_any A5 _ _ cap5 (seesL ds s) 1 w10 Q11 (by omega) (by omega) (by omega)).mono ?_
    rintro e w11 ⟨row, rfl, Q12, hG11, hrow⟩
    have HROW := hide hrow
    have R12 := R11.keep hG11 (fun g e => by have := HROW.out g e; omega)
    have I9 := I8.part hG11 (fun g e => by have := HROW.out g e; have := I8.base; omega) (fun x hx g e => by
      simp only [List.mem_cons, List.not_mem_nil, or_false] at hx
      have := HROW.out g e
      rcases hx with rfl | rfl <;> simp only <;> omega)
    have z11 := hG11.size
    clear R11 Q11 I8 hG11 hrow k7
    have k7 := (I9.nth 0 rfl).one.1
    generalize hr : (seesL ds s).length = r at *
    have HRR := hide hr
    clear hr
    go_wp2_with fail
    refine (heldPast_any A5 cap5 r 1 w11 (by omega) (by omega) (by omega) Q12.tg).mono ?_
    rintro e w12 ⟨rfl, hb12⟩
    have z12 := hb12.size
    have I10 := (I9.on hb12).top
    have R13 := R12.on hb12
    have Q13 := Q12.on hb12
    clear I9 R12 Q12 hb12 k7
    have hp12 : ¬ ((1 : Int) + 2 * (r : Int) < 0) := by omega
    have hne : ((1 : Int) + 2 * (r : Int) != 1 + 2 * (r : Int)) = false := by simp
    go_wp2_with fail
    refine (toDoneS_any a c ds _ hn ((hd.on I10.below).up I10.base)).mono ?_
    rintro e w13 ⟨g13, cur13, rfl, hg13, hB13, hsz13, hcur13, hb13⟩
    have T13 : Dg w13 w13.heap.size (some ⟨g13, 0, none⟩) ds := Dg.of hB13 hB13.inside hcur13
    have z13 := hb13.size
    have I11 := (I10.on hb13).top
    have R14 := R13.on hb13
    have Q14 := Q13.on hb13
    clear I10 R13 Q13 hb13 hcur13 hB13
    have C13 := implHistSees_any (some ⟨g13, 0, none⟩) ds.length ds s w13 hn T13
    go_wp2_with fail
    refine C13.mono ?_
    rintro e w14 ⟨A14, cap14, rfl, P14, hb14⟩
    rw [HRR.out]
    have z14 := hb14.size
    have I12 := ((I11.on hb14).top).box 35 #[.slice A14 r cap14]
    have R15 := (R14.on hb14).alloc (.cells #[.slice A14 r cap14] 35)
    have Q15 := (Q14.on hb14).alloc (.cells #[.slice A14 r cap14] 35)
    have P15 := P14.alloc (.cells #[.slice A14 r cap14] 35)
    have k9 := (I12.nth 2 rfl).one.1
    clear I11 R14 Q14 P14 hb14 T13 C13
    have C14 := eqPast_any A14 A3 cap14 cap3 (seesL ds s) (seesL ds s) _ (by rw [HRR.out]; omega) (by rw [HRR.out]; omega) P15.tg R15.tg
    rw [HRR.out, decide_eq_true rfl] at C14
    have HC14 := hide C14
    clear C14
    go_wp2_with fail
    refine HC14.out.mono ?_
    rintro e w15 ⟨rfl, hb15⟩
    have z15 := hb15.size
    have I13 := (I12.on hb15).top
    have Q16 := Q15.on hb15
    clear I12 R15 Q15 P15 hb15 HC14 k9
    have k9 := (I13.nth 1 rfl).one.1
    go_wp2_with fail
    refine (heldPast_any A5 cap5 r 1 w15 (by omega) (by omega) (by omega) Q16.tg).mono ?_
    rintro e w16 ⟨rfl, hb16⟩
    have I14 := I13.on hb16
    clear I13 Q16 k9 hb16
    go_wp2
    go_ret
    exact ⟨rfl, I14.below⟩
  · go_enter Try.func10, Try.ntmps10
    go_wp2_with fail
    refine (szDoneS_not a ds.length c 1048576 _ (by omega) (by omega) hl (by omega)).mono ?_
    rintro e w1 ⟨rfl, rfl⟩
    go_wp2
    go_ret
    exact ⟨rfl, Below.refl _ _⟩

set_option maxRecDepth 100000 in
theorem lifted (os : Os) (started : os.Started) (H : Type) (enc : TypeId × Value → H) :
    ReturnsInHanded {} Try.checked os 10 .any (Rows.fnExactHistSeesSpec.pre6 enc Try.prog Try.f10 Rows.fnExactHistSeesRow.domain false) (Rows.fnExactHistSeesSpec.post enc Try.prog Try.f10 false true false false) := by
  refine returnsInHanded_of_change (C := Try.checked) own started (by kernel_rfl) Try.func10
    (ChangeSpec.witness6 (enc := enc) (C := Try.checked) false ⟨#[], #[.slice none 0 0, .int .i64 0], []⟩ 8 (by kernel_rfl) (by kernel_rfl) (by kernel_rfl) (by kernel_rfl)) ?_
  intro W base args ds gs before hval0 hW hcnd _
  have hval : ∀ (j : Nat) t v, Try.f10.params[j]? = some t → args[j]? = some v → Value.okWide Try.prog W .any base t v := hval0
  have hW' := hW
  obtain ⟨p, q, hA0, hV, rfl, hfz, hnd⟩ := hW
  have hA : DataW.TrodAll enc Try.prog W 0 (fun _ => true) true Try.f10.params.toList args.toList ds p := hA0
  rw [Try.params10] at hA hval
  have hK := hA
  obtain ⟨v0, vs0, d0, ds0, p0, q0, hargs, rfl, rfl, h0, r0⟩ := trodAll_cons hA
  obtain ⟨v1, vs1, d1, ds1, p1, q1, rfl, rfl, rfl, h1, r1⟩ := trodAll_cons r0
  obtain ⟨rfl, rfl, rfl⟩ := trodAll_nil r1
  obtain rfl : args = #[v0, v1] := by cases args; simp_all
  obtain ⟨rfl, rfl⟩ := trodVars_none hV
  obtain ⟨a0, cap0, z0, rfl, b0⟩ := read_dones (hval 0 22 v0 rfl rfl) h0
  obtain ⟨a1, rfl, rfl, rfl, w1⟩ := open_int Try.underlying3 (hval 1 3 v1 rfl rfl) h1
  clear hA0 hval0
  refine (walk a0 cap0 z0 a1 W b0.1 b0.2).mono fun e W' ⟨he, hb⟩ => ?_
  subst he
  have hK' := stay_all hb (by intro t ht; simp only [List.mem_cons, List.not_mem_nil, or_false] at ht; rcases ht with rfl | rfl <;> exact ⟨by kernel_rfl, of_decide_eq_true (by kernel_rfl)⟩) hK
  exact ⟨_, rfl, _, _, _, [], _, [], hW', trodAll_mk1 (shut_bool Try.underlying4 _), hK', rfl, hb.frame _, fun h => by cases h⟩

theorem over : Rows.fnExactHistSeesRow.holds Try.pinned (OpenSpec.ofChange Rows.fnExactHistSeesSpec) :=
  OpenClaim.holds_of_wide 10 Try.f10 rfl rfl rfl rfl rfl rfl rfl ⟨rfl, rfl, rfl, rfl, rfl⟩ rfl rfl rfl rfl rfl (by kernel_rfl) Try.func10
    (by refine joined_of ?_; kernel_rfl) (of_decide_eq_true (by kernel_rfl)) (by unfold Func.isWrapper; first | (rw [if_pos (by decide +kernel)]; kernel_rfl) | (rw [if_neg (by decide +kernel)]; exact ⟨rfl, rfl⟩))
    (fun os started H enc _ => lifted os started H enc)
end Go.Proofs.Ytjljaobmeaocjaa.LawHistSees
namespace Go.Proofs.Ytjljaobmeaocjaa
/-- The statement itself. -/
theorem fnExactHistSees_holds : Rows.FnExactHistSeesSaid := LawHistSees.over
#print axioms fnExactHistSees_holds
end Go.Proofs.Ytjljaobmeaocjaa
namespace Go.Proofs.Ytjljaobmeaocjaa.LawHistSees
end Go.Proofs.Ytjljaobmeaocjaa.LawHistSees
