/- Contract of the program's TagGet. Condition: at most 1048576 letters; the library's variables hold what they are laid with. -/
import Derived.Test.YtdkpikemlpfepaaDoorTagGetPure
import Derived.Test.YtdkpikemlpfepaaDoorLibVars
import Derived.Test.YtdkpikemlpfepaaDoorAtoiLay
namespace Go.Proofs.YtdkpikemlpfepaaDoor
open Go.RowKit Go.Joins
attribute [local go_sem ↓] Go.wp_at_zero Go.wp_at_succ

set_option maxRecDepth 100000 in
set_option maxHeartbeats 2000000 in
theorem readNumber_any (s : ByteArray) (hs : s.size ≤ 1048576) (w : World) (hL : LibOk w) :
    Calls Tryd.prog 23 #[.string s] w fun e w' => ∃ n ok, e = .returned (.tuple #[.int .i64 n, .bool ok]) ∧ ReadN s.data.toList n ok ∧ Below w.heap.size w w' := by
  cases h : Lib.atoiAll s.data.toList
  · rename_i v
    have hb := Lib.atoiAll_bounds h
    have HA := hide h
    have HL := hide hL
    clear h hL
    go_enter Tryd.func23, Tryd.ntmps23
    go_wp2_with fail
    refine (Go.Proofs.Any.strconv_Atoi_ok atoiL s (by omega) v HA.out _).mono ?_
    rintro e w1 ⟨rfl, hw⟩
    have L1 : Below w.heap.size w w1 := by
      rcases hw with rfl | ⟨t, rfl⟩
      · exact Below.refl _ _
      · exact Lib.bytesWorld_below _ _ _
    have HB1 := hide L1
    clear hw L1
    go_wp2_with fail
    refine (Go.Proofs.Any.strconv_Itoa itoaL v hb.1 hb.2 _ (HL.out.on HB1.out).pow).mono ?_
    rintro e w2 ⟨rfl, k, os, rfl⟩
    have HB2 := hide (HB1.out.trans ((grow_below w1 k os).mono HB1.out.size))
    by_cases he : (⟨(Lib.itoa v).toArray⟩ : ByteArray) = s
    · have HE := hide he
      rw [he]
      clear he
      go_wp2
      refine bodyPost_ret (v := .tuple #[.int .i64 (v), .bool true]) (by simp [results, Tryd.results23, go_sem]) rfl ?_
      exact ⟨v, true, rfl, .inl ⟨rfl, by rw [← HE.out], HA.out⟩, HB2.out⟩
    · have HE := hide he
      have hq : ((⟨(Lib.itoa v).toArray⟩ : ByteArray).toList == s.toList) = false := (txt_same _ _).trans (decide_eq_false he)
      have HQ : Hid (ReadN s.data.toList 0 false) := readN_no (fun v' h' => by
        rw [HA.out] at h'
        injection h' with h'
        subst h'
        intro q
        exact HE.out (by rw [q]))
      generalize (⟨(Lib.itoa v).toArray⟩ : ByteArray) = x at hq ⊢
      clear HE he
      go_wp2
      refine bodyPost_ret (v := .tuple #[.int .i64 (0), .bool false]) (by simp [results, Tryd.results23, go_sem]) rfl ?_
      exact ⟨0, false, rfl, HQ.out, HB2.out⟩
  · have HA := hide h
    have HL := hide hL
    obtain ⟨ev, hev, hei⟩ := hL.syn
    clear h hL
    have HR : Hid (ReadN s.data.toList 0 false) := readN_no (fun v' h' => by rw [HA.out] at h'; cases h')
    go_enter Tryd.func23, Tryd.ntmps23
    go_wp2_with fail
    refine (Go.Proofs.Any.strconv_Atoi_syntax atoiL s (by omega) HA.out ev _ hev hei).mono ?_
    rintro e w1 ⟨N, rfl, -, -, hb⟩
    have HB := hide hb
    clear hb
    go_wp2
    refine bodyPost_ret (v := .tuple #[.int .i64 (0), .bool false]) (by simp [results, Tryd.results23, go_sem]) rfl ?_
    exact ⟨0, false, rfl, HR.out, HB.out⟩
  · have HA := hide h
    have HL := hide hL
    obtain ⟨ev, hev, hei⟩ := hL.rng
    clear h hL
    have HR : Hid (ReadN s.data.toList 0 false) := readN_no (fun v' h' => by rw [HA.out] at h'; cases h')
    go_enter Tryd.func23, Tryd.ntmps23
    go_wp2_with fail
    refine (Go.Proofs.Any.strconv_Atoi_range atoiL s (by omega) HA.out ev _ hev hei).mono ?_
    rintro e w1 ⟨N, rfl, -, -, hb⟩
    have HB := hide hb
    clear hb
    go_wp2
    refine bodyPost_ret (v := .tuple #[.int .i64 (0), .bool false]) (by simp [results, Tryd.results23, go_sem]) rfl ?_
    exact ⟨0, false, rfl, HR.out, HB.out⟩
theorem cut_any (s : ByteArray) (hs : s.size ≤ 1048576) (w : World) (hL : LibOk w) :
    Calls Tryd.prog 22 #[.string s, .string ⟨#[46]⟩] w fun e w' => ∃ (p q : ByteArray) (b : Bool), e = .returned (.tuple #[.string p, .string q, .bool b]) ∧ p.data.toList = (Lib.cut s.data.toList [46]).1 ∧ q.data.toList = (Lib.cut s.data.toList [46]).2.1 ∧ p.size ≤ 1048576 ∧ q.size ≤ 1048576 ∧ Below w.heap.size w w' := by
  obtain ⟨m, hm⟩ := hL.max
  have c := cut_len s.data.toList
  have z : s.data.toList.length = s.size := by rw [Array.length_toList]; rfl
  exact (Go.Proofs.Any.strings_Cut { cutL with } s ⟨#[46]⟩ m w (by omega) hm).mono fun e w' ⟨he, n, hw⟩ => ⟨⟨(Lib.cut s.data.toList [46]).1.toArray⟩, ⟨(Lib.cut s.data.toList [46]).2.1.toArray⟩, _, he, by simp, by simp, by
    show (Lib.cut s.data.toList [46]).1.toArray.size ≤ _
    simp; omega, by
    show (Lib.cut s.data.toList [46]).2.1.toArray.size ≤ _
    simp; omega, by
    rw [hw]
    exact ⟨rfl, rfl, rfl, by simp, fun j hj => rfl⟩⟩
theorem getR_yes {s : ByteArray} {x y : List UInt8} {n1 n2 : Int} {ok1 ok2 : Bool} (h1 : ReadN x n1 ok1) (h2 : ReadN y n2 ok2) (hx : x = (Lib.cut s.data.toList [46]).1) (hy : y = (Lib.cut s.data.toList [46]).2.1) :
    (ok1 = true → ok2 = true → okB n1 n2 = true → GetR s n1 n2 true) ∧ ((ok1 && ok2 && okB n1 n2) = false → GetR s 0 0 false) := by
  subst hx hy
  exact getR_of h1 h2
set_option maxRecDepth 100000 in
set_option maxHeartbeats 4000000 in
theorem implTagGet_any (s : ByteArray) (hs : s.size ≤ 1048576) (w : World) (hL : LibOk w) :
    Calls Tryd.prog 12 #[.string s] w fun e w' => ∃ t u ok, e = .returned (.tuple #[.agg #[.int .i64 t, .int .i64 u], .bool ok]) ∧ GetR s t u ok ∧ Below w.heap.size w w' := by
  have S0 := (Inv.start w).box 24 #[.int .i64 0, .int .i64 0]
  simp only [World.size_alloc] at S0
  have HL := hide hL
  clear hL
  go_enter Tryd.func12, Tryd.ntmps12
  go_wp2_with fail
  refine (cut_any s hs _ (HL.out.on S0.below)).mono ?_
  rintro e w1 ⟨p, q, b, rfl, hp, hq, zp, zq, hb1⟩
  have S1 := S0.on hb1
  have HP := hide hp
  have HQ := hide hq
  clear S0 hb1 hp hq
  go_wp2_with fail
  refine (readNumber_any p zp _ (HL.out.on S1.below)).mono ?_
  rintro e w2 ⟨n1, ok1, rfl, h1, hb2⟩
  have S2 := S1.on hb2
  have H1 := hide h1
  clear S1 hb2 h1
  go_wp2_with fail
  refine (readNumber_any q zq _ (HL.out.on S2.below)).mono ?_
  rintro e w3 ⟨n2, ok2, rfl, h2, hb3⟩
  have S3 := ((S2.on hb3).top).box 24 #[.int .i64 n1, .int .i64 n2]
  have HG := hide (getR_yes H1.out h2 HP.out HQ.out)
  have zr := S3.room
  clear S2 hb3 h2 H1 HP HQ zp zq
  cases ok1
  · have HZ := hide (HG.out.2 rfl)
    have q1 := (S3.nth 1 rfl).two
    go_wp2
    refine bodyPost_ret (v := .tuple #[.agg #[.int .i64 0, .int .i64 0], .bool false]) (by simp [results, Tryd.results12, go_sem, q1]) rfl ?_
    exact ⟨0, 0, false, rfl, HZ.out, (S3.below.setCell (by simp) _).setCell (by simp) _⟩
  cases ok2
  · have HZ := hide (HG.out.2 rfl)
    have q1 := (S3.nth 1 rfl).two
    go_wp2
    refine bodyPost_ret (v := .tuple #[.agg #[.int .i64 0, .int .i64 0], .bool false]) (by simp [results, Tryd.results12, go_sem, q1]) rfl ?_
    exact ⟨0, 0, false, rfl, HZ.out, (S3.below.setCell (by simp) _).setCell (by simp) _⟩
  have q0 := (S3.nth 0 rfl).two
  cases hok : okB n1 n2
  · have HZ := hide (HG.out.2 (by rw [hok]; rfl))
    have HOK := hide hok
    clear hok
    go_wp2_with fail
    refine (implTagOk_any n1 n2 _).mono ?_
    rw [HOK.out]
    rintro e w4 ⟨rfl, hb4⟩
    have S4 := S3.on hb4
    have q1 := (S4.nth 1 rfl).two
    clear S3 q0 hb4
    go_wp2
    refine bodyPost_ret (v := .tuple #[.agg #[.int .i64 0, .int .i64 0], .bool false]) (by simp [results, Tryd.results12, go_sem, q1]) rfl ?_
    exact ⟨0, 0, false, rfl, HZ.out, (S4.below.setCell (by simp) _).setCell (by simp) _⟩
  · have HZ := hide (HG.out.1 rfl rfl hok)
    have HOK := hide hok
    clear hok
    go_wp2_with fail
    refine (implTagOk_any n1 n2 _).mono ?_
    rw [HOK.out]
    rintro e w4 ⟨rfl, hb4⟩
    have S4 := S3.on hb4
    have q1 := (S4.nth 1 rfl).two
    have q2 := (S4.nth 0 rfl).two
    clear S3 q0 hb4
    go_wp2
    refine bodyPost_ret (v := .tuple #[.agg #[.int .i64 n1, .int .i64 n2], .bool true]) (by simp [results, Tryd.results12, go_sem, q1]) rfl ?_
    exact ⟨n1, n2, true, rfl, HZ.out, (S4.below.setCell (by simp) _).setCell (by simp) _⟩
end Go.Proofs.YtdkpikemlpfepaaDoor
