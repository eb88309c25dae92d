/- The law FnExactGuardOnly holds: for every list of records and every number the program's GuardOnly answers as the model's, leaves its argument as it was, and answers in memory of its own. No condition. -/
import Derived.Test.YtjljaobmeaocjaaLiftD
import Derived.Test.YtjljaobmeaocjaaGuardOnly
namespace Go.Proofs.Ytjljaobmeaocjaa.LawGuardOnly
open Go.ChangeShapes Go.WideShapes Go.ChangeAt Go.RowKit Go.Joins

set_option maxRecDepth 100000 in
set_option maxHeartbeats 4000000 in
theorem walk (a : Option Addr) (c : Nat) (ds : List D) (s : Int) (w : World) (hd : Dg w w.heap.size a ds) (hl : ds.length ≤ 9223372036854775807) :
    Calls Try.prog 7 #[.slice a ds.length c, .int .i64 s] w fun e w' => e = .returned (.bool true) ∧ Below w.heap.size w w' := by
  by_cases hn : ds.length ≤ 1048576
  · have hp : ¬ ((1048576 : Int) - (ds.length : Int) < 0) := by omega
    have hrl := resOnly_len s ds
    go_enter Try.func7, Try.ntmps7
    go_wp2_with fail
    refine (szDoneS_fits a ds.length c 1048576 _ (by omega) (by omega)).mono ?_
    rintro e w1 ⟨rfl, rfl⟩
    go_wp2_with fail
    refine (toDoneS_any a c ds _ hn hd).mono ?_
    rintro e w2 ⟨g2, cur2, rfl, hg2, hB2, hsz2, hcur2, hb2⟩
    have T2 : Dg w2 w2.heap.size (some ⟨g2, 0, none⟩) ds := Dg.of hB2 hB2.inside hcur2
    clear hcur2
    go_wp2_with fail
    refine (specGuardOnly_any _ _ ds s _ hn T2).mono ?_
    rintro e w3 ⟨A3, cap3, rfl, R3, hb3⟩
    have L3 := hb2.trans (hb3.mono hb2.size)
    have z2 := hb2.size
    have z3 := hb3.size
    clear T2 hB2 hb2 hb3
    go_wp2_with fail
    refine (toDoneS_any a c ds _ hn ((hd.on L3).up L3.size)).mono ?_
    rintro e w4 ⟨g4, cur4, rfl, hg4, hB4, hsz4, hcur4, hb4⟩
    have R4 := R3.on hb4
    have L4 := L3.trans (hb4.mono L3.size)
    have z4 := hb4.size
    have in4 := hB4.inside
    have HC4 := hide hcur4
    clear hcur4 hb4 R3
    go_wp2_with fail
    refine (implGuardOnly_any _ _ ds s _ hn (Dg.of hB4 in4 HC4.out)).mono ?_
    rintro e w5 ⟨A5, cap5, rfl, Q5, hb5⟩
    have L5 := L4.trans (hb5.mono L4.size)
    have R5 := R4.on hb5
    have B5 := hB4.on hb5
    have z5 := hb5.size
    clear L4 R4 hB4 hb5
    go_wp2_with fail
    refine (eqDoneS_same _ _ _ _ (resOnly s ds) _ (by omega) Q5.dg R5.dg).mono ?_
    rintro e w6 ⟨rfl, hb6⟩
    have L6 := L5.trans (hb6.mono L5.size)
    have R6 := R5.on hb6
    have Q6 := Q5.on hb6
    have B6 := B5.on hb6
    have z6 := hb6.size
    clear L5 R5 Q5 B5 hb6
    go_wp2_with fail
    refine (toDoneS_any a c ds _ hn ((hd.on L6).up L6.size)).mono ?_
    rintro e w7 ⟨g7, cur7, rfl, hg7, hB7, hsz7, hcur7, hb7⟩
    have T7 : Dg w7 w7.heap.size (some ⟨g7, 0, none⟩) ds := Dg.of hB7 hB7.inside hcur7
    have L7 := L6.trans (hb7.mono L6.size)
    have R7 := R6.on hb7
    have Q7 := Q6.on hb7
    have B7 := B6.on hb7
    have z7 := hb7.size
    clear L6 R6 Q6 B6 hb7 hcur7 hB7
    go_wp2_with fail
    refine (eqDoneS_same _ _ _ _ ds _ hn (Dg.of B7 B7.inside HC4.out) T7).mono ?_
    rintro e w8 ⟨rfl, hb8⟩
    have L8 := L7.trans (hb8.mono L7.size)
    have R8 := R7.on hb8
    have Q8 := Q7.on hb8
    have B8 := B7.on hb8
    have z8 := hb8.size
    clear L7 R7 Q7 B7 hb8 T7
    go_wp2_with fail
    refine (markDoneS_any g4 _ ds.length _ cur4 1 _ B8 (by omega) hn (by omega) (by omega)).mono ?_
    rintro e w9 ⟨rfl, -, hG9⟩
    have R9 := R8.keep hG9 (fun g e => by injection e with e; omega)
    have Q9 := Q8.keep hG9 (fun g e => by injection e with e; omega)
    have L9 := L8.grown hG9 L8.size (fun g e => by injection e with e; omega)
    have z9 := hG9.size
    have hp9 : ¬ ((1 : Int) + 5 * (ds.length : Int) < 0) := by omega
    clear R8 Q8 L8 B8 hG9
    go_wp2_with fail
    refine (eqDoneS_same _ _ _ _ (resOnly s ds) _ (by omega) Q9.dg R9.dg).mono ?_
    rintro e w10 ⟨rfl, hb10⟩
    have L10 := L9.trans (hb10.mono L9.size)
    have R10 := R9.on hb10
    have Q10 := Q9.on hb10
    have z10 := hb10.size
    clear L9 R9 Q9 hb10
    go_wp2_with fail
    refine (markResD_any _ _ _ _ _ 1 _ Q10 (by omega) (by omega) (by omega)).mono ?_
    rintro e w11 ⟨row, rfl, Q11, hG11, hrow⟩
    have HROW := hide hrow
    have R11 := R10.keep hG11 (fun g e => by have := HROW.out g e; omega)
    have L11 := L10.grown hG11 L10.size (fun g e => by have := HROW.out g e; omega)
    have z11 := hG11.size
    clear R10 Q10 L10 hG11 hrow
    generalize hr : (resOnly s ds).length = r at *
    have HRR := hide hr
    clear hr
    go_wp2_with fail
    refine (heldDoneS_any _ _ r 1 _ (by omega) (by omega) (by omega) Q11.dg).mono ?_
    rintro e w12 ⟨rfl, rfl⟩
    have hp12 : ¬ ((1 : Int) + 5 * (r : Int) < 0) := by omega
    have hne : ((1 : Int) + 5 * (r : Int) != 1 + 5 * (r : Int)) = false := by simp
    go_wp2_with fail
    refine (toDoneS_any a c ds _ hn ((hd.on L11).up L11.size)).mono ?_
    rintro e w13 ⟨g13, cur13, rfl, hg13, hB13, hsz13, hcur13, hb13⟩
    have T13 : Dg w13 w13.heap.size (some ⟨g13, 0, none⟩) ds := Dg.of hB13 hB13.inside hcur13
    have L13 := L11.trans (hb13.mono L11.size)
    have R13 := R11.on hb13
    have Q13 := Q11.on hb13
    have z13 := hb13.size
    clear L11 R11 Q11 hb13 hcur13 hB13
    have C13 := implGuardOnly_any (some ⟨g13, 0, none⟩) ds.length ds s w13 hn T13
    go_wp2_with fail
    refine C13.mono ?_
    rintro e w14 ⟨A14, cap14, rfl, Q14, hb14⟩
    have L14 := L13.trans (hb14.mono L13.size)
    have R14 := R13.on hb14
    have Q14' := Q13.on hb14
    have z14 := hb14.size
    clear L13 R13 Q13 hb14 T13 C13
    have C14 := eqDoneS_same A14 A3 cap14 cap3 (resOnly s ds) w14 (by rw [HRR.out]; omega) Q14.dg R14.dg
    rw [HRR.out] at C14 ⊢
    go_wp2_with fail
    refine C14.mono ?_
    rintro e w15 ⟨rfl, hb15⟩
    have L15 := L14.trans (hb15.mono L14.size)
    have Q15 := Q14'.on hb15
    have z15 := hb15.size
    clear L14 R14 Q14 Q14' hb15 C14
    go_wp2_with fail
    refine (heldDoneS_any _ _ r 1 _ (by omega) (by omega) (by omega) Q15.dg).mono ?_
    rintro e w16 ⟨rfl, rfl⟩
    go_wp2
    go_ret
    exact ⟨rfl, L15⟩
  · go_enter Try.func7, Try.ntmps7
    go_wp2_with fail
    refine (szDoneS_not a ds.length c 1048576 _ (by omega) (by omega) hl (by omega)).mono ?_
    rintro e w1 ⟨rfl, rfl⟩
    go_wp2
    go_ret
    exact ⟨rfl, Below.refl _ _⟩

set_option maxRecDepth 100000 in
theorem lifted (os : Os) (started : os.Started) (H : Type) (enc : TypeId × Value → H) :
    ReturnsInHanded {} Try.checked os 7 .any (Rows.fnExactGuardOnlySpec.pre6 enc Try.prog Try.f7 Rows.fnExactGuardOnlyRow.domain false) (Rows.fnExactGuardOnlySpec.post enc Try.prog Try.f7 false true false false) := by
  refine returnsInHanded_of_change (C := Try.checked) own started (by kernel_rfl) Try.func7
    (ChangeSpec.witness6 (enc := enc) (C := Try.checked) false ⟨#[], #[.slice none 0 0, .int .i64 0], []⟩ 8 (by kernel_rfl) (by kernel_rfl) (by kernel_rfl) (by kernel_rfl)) ?_
  intro W base args ds gs before hval0 hW hcnd _
  have hval : ∀ (j : Nat) t v, Try.f7.params[j]? = some t → args[j]? = some v → Value.okWide Try.prog W .any base t v := hval0
  have hW' := hW
  obtain ⟨p, q, hA0, hV, rfl, hfz, hnd⟩ := hW
  have hA : DataW.TrodAll enc Try.prog W 0 (fun _ => true) true Try.f7.params.toList args.toList ds p := hA0
  rw [Try.params7] at hA hval
  have hK := hA
  obtain ⟨v0, vs0, d0, ds0, p0, q0, hargs, rfl, rfl, h0, r0⟩ := trodAll_cons hA
  obtain ⟨v1, vs1, d1, ds1, p1, q1, rfl, rfl, rfl, h1, r1⟩ := trodAll_cons r0
  obtain ⟨rfl, rfl, rfl⟩ := trodAll_nil r1
  obtain rfl : args = #[v0, v1] := by cases args; simp_all
  obtain ⟨rfl, rfl⟩ := trodVars_none hV
  obtain ⟨a0, cap0, z0, rfl, b0⟩ := read_dones (hval 0 22 v0 rfl rfl) h0
  obtain ⟨a1, rfl, rfl, rfl, w1⟩ := open_int Try.underlying3 (hval 1 3 v1 rfl rfl) h1
  clear hA0 hval0
  refine (walk a0 cap0 z0 a1 W b0.1 b0.2).mono fun e W' ⟨he, hb⟩ => ?_
  subst he
  have hK' := stay_all hb (by intro t ht; simp only [List.mem_cons, List.not_mem_nil, or_false] at ht; rcases ht with rfl | rfl <;> exact ⟨by kernel_rfl, of_decide_eq_true (by kernel_rfl)⟩) hK
  exact ⟨_, rfl, _, _, _, [], _, [], hW', trodAll_mk1 (shut_bool Try.underlying4 _), hK', rfl, hb.frame _, fun h => by cases h⟩

theorem over : Rows.fnExactGuardOnlyRow.holds Try.pinned (OpenSpec.ofChange Rows.fnExactGuardOnlySpec) :=
  OpenClaim.holds_of_wide 7 Try.f7 rfl rfl rfl rfl rfl rfl rfl ⟨rfl, rfl, rfl, rfl, rfl⟩ rfl rfl rfl rfl rfl (by kernel_rfl) Try.func7
    (by refine joined_of ?_; kernel_rfl) (of_decide_eq_true (by kernel_rfl)) (by unfold Func.isWrapper; first | (rw [if_pos (by decide +kernel)]; kernel_rfl) | (rw [if_neg (by decide +kernel)]; exact ⟨rfl, rfl⟩))
    (fun os started H enc _ => lifted os started H enc)
end Go.Proofs.Ytjljaobmeaocjaa.LawGuardOnly
namespace Go.Proofs.Ytjljaobmeaocjaa
/-- The statement itself. -/
theorem fnExactGuardOnly_holds : Rows.FnExactGuardOnlySaid := LawGuardOnly.over
#print axioms fnExactGuardOnly_holds
end Go.Proofs.Ytjljaobmeaocjaa
namespace Go.Proofs.Ytjljaobmeaocjaa.LawGuardOnly
end Go.Proofs.Ytjljaobmeaocjaa.LawGuardOnly
