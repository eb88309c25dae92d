/- Contracts of StoreAdd, of program and model. Condition: as many versions and tags as a law lets by. -/
import Derived.Test.YtgofeljmpkhkbaaStoreKeep
namespace Go.Proofs.Ytgofeljmpkhkbaa
open Go.RowKit Go.Joins
attribute [local go_sem ↓] Go.wp_at_zero Go.wp_at_succ

/-- A version as plain data. -/
def verV (v : V) : Bool := verB v.k v.t v.u v.ts v.s v.g
/-- What StoreAdd answers. -/
def addR (vs : List V) (v : V) : List V := if (storeB vs && verV v) = true then keepL vs v else []
/-- An answer that is a store. -/
def AnswerS (w : World) (rs : List V) (e : Ending) (w' : World) : Prop :=
  ∃ (x : Value) (us : List V), e = .returned (.agg #[x]) ∧ us.length = rs.length ∧ Like us rs ∧ ResV w' w.heap.size w'.heap.size x us ∧ Below w.heap.size w w'
theorem answerS_nil {w w' : World} {rs : List V} (h : rs = []) (hb : Below w.heap.size w w') : AnswerS w rs (.returned (.agg #[.slice none 0 0])) w' := by
  subst h
  exact ⟨_, [], rfl, rfl, fun i v v' hi => by simp at hi, .inl ⟨rfl, _, _, rfl⟩, hb⟩
theorem res_four {w : World} {B U : Nat} {x : Value} {us : List V} (h : ResV w B U x us) (h4 : us.length = 4) : ∃ G cap cur, x = .slice (some ⟨G, 0, none⟩) 4 cap ∧ ORow w B U G us cur := by
  rcases h with ⟨rfl, _⟩ | ⟨G, cap, cur, rfl, hO⟩
  · simp at h4
  · exact ⟨G, cap, cur, by rw [h4], hO⟩
theorem like_keep {us vs : List V} {v : V} (hl : us.length = vs.length) (h : Like us vs) : Like (keepL us v) (keepL vs v) := by
  cases hx : us[v.k.toNat]? with
  | none =>
    have hy : vs[v.k.toNat]? = none := by
      rw [List.getElem?_eq_none_iff] at hx ⊢
      omega
    have e1 : keepL us v = us := by unfold keepL; rw [hx]
    have e2 : keepL vs v = vs := by unfold keepL; rw [hy]
    rw [e1, e2]
    exact h
  | some x =>
    have hlt := (List.getElem?_eq_some_iff.1 hx).1
    have hy := List.getElem?_eq_getElem (l := vs) (i := v.k.toNat) (by omega)
    have hl2 := h _ _ _ hx hy
    cases hb : lessB x.t x.u v.t v.u with
    | false =>
      rw [keepL_no hx hb, keepL_no hy (by rw [← hl2.2.1, ← hl2.2.2.1]; exact hb)]
      exact h
    | true =>
      rw [keepL_yes hx hb, keepL_yes hy (by rw [← hl2.2.1, ← hl2.2.2.1]; exact hb)]
      intro i a b ha hb'
      by_cases e : i = v.k.toNat
      · subst e
        rw [List.getElem?_set_self (by omega)] at ha hb'
        injection ha with ha
        injection hb' with hb'
        subst ha hb'
        exact ⟨rfl, rfl, rfl, rfl, rfl, rfl⟩
      · rw [List.getElem?_set_ne (fun e' => e e'.symm)] at ha hb'
        exact h i a b ha hb'
theorem like_trans {a b c : List V} (hl : a.length = b.length) (h : Like a b) (k : Like b c) : Like a c := fun i x z hx hz => by
  have hlt := (List.getElem?_eq_some_iff.1 hx).1
  have hy := List.getElem?_eq_getElem (l := b) (i := i) (by omega)
  obtain ⟨a1, a2, a3, a4, a5, a6⟩ := h i x _ hx hy
  obtain ⟨b1, b2, b3, b4, b5, b6⟩ := k i _ z hy hz
  exact ⟨a1.trans b1, a2.trans b2, a3.trans b3, a4.trans b4, a5.trans b5, a6.trans b6⟩
theorem verV_key {v : V} (h : verV v = true) : 0 ≤ v.k ∧ v.k ≤ 3 := by
  unfold verV verB at h
  simp at h
  omega

set_option maxRecDepth 100000 in
set_option maxHeartbeats 1000000 in
theorem implStoreAdd_any (a : Option Addr) (c : Nat) (vs : List V) (v : V) (w : World) (hn : vs.length ≤ 1048576) (hm : Small vs) (hv : Vg w w.heap.size a vs) (hn1 : v.ts.length ≤ 1048576) (hs1 : v.s.size ≤ 9223372036854775807) (ht : Tg w w.heap.size v.a v.ts) :
    Calls Try.prog 7 #[.agg #[.slice a vs.length c], .agg (verC v.k v.t v.u v.a v.ts.length v.c v.s v.g)] w (AnswerS w (addR vs v)) := by
  have S0 := (((Inv.start w).box 25 #[.slice a vs.length c]).box 32 (verC v.k v.t v.u v.a v.ts.length v.c v.s v.g)).box 25 #[.slice none 0 0]
  simp only [World.size_alloc] at S0
  have HMS := hide hm
  have HT := hide ht
  clear hm ht
  cases ho : storeB vs
  · have HE : Hid (addR vs v = []) := by unfold Hid addR; rw [ho]; rfl
    have HO := hide ho
    clear ho
    go_enter Try.func7, Try.ntmps7
    go_wp2_with fail
    generalize ((w.alloc (.cells #[.slice a vs.length c] 25)).alloc (.cells (verC v.k v.t v.u v.a v.ts.length v.c v.s v.g) 32)).alloc (.cells #[.slice none 0 0] 25) = W at S0 ⊢
    refine (implStoreOk_any a c vs W hn HMS.out ((hv.on S0.below).up S0.base)).mono ?_
    rintro e w1 ⟨rfl, hb1⟩
    rw [HO.out]
    have S1 := S0.on hb1
    have q1 := (S1.nth 0 rfl).one
    clear S0
    go_wp2
    refine bodyPost_ret (v := .agg #[.slice none 0 0]) (by simp [results, Try.results7, go_sem, q1]) rfl ?_
    exact answerS_nil HE.out (S1.below.setCell (by simp; omega) _)
  · have HO := hide ho
    have H4 := hide (storeB_four ho)
    clear ho
    have CV : ∀ W : World, Below w.heap.size w W → Calls Try.prog 12 #[.agg (verC v.k v.t v.u v.a v.ts.length v.c v.s v.g)] W fun e w' => e = .returned (.bool (verV v)) ∧ Below W.heap.size W w' := fun W hb => implVerOk_any v.k v.t v.u v.a v.c v.ts v.s v.g W hn1 hs1 ((HT.out.on hb).up hb.size)
    have HCV := hide CV
    clear CV
    cases hvv : verV v
    · have HE : Hid (addR vs v = []) := by unfold Hid addR; rw [hvv]; simp
      have HV := hide hvv
      clear hvv
      go_enter Try.func7, Try.ntmps7
      go_wp2_with fail
      generalize ((w.alloc (.cells #[.slice a vs.length c] 25)).alloc (.cells (verC v.k v.t v.u v.a v.ts.length v.c v.s v.g) 32)).alloc (.cells #[.slice none 0 0] 25) = W at S0 ⊢
      refine (implStoreOk_any a c vs W hn HMS.out ((hv.on S0.below).up S0.base)).mono ?_
      rintro e w1 ⟨rfl, hb1⟩
      rw [HO.out]
      have S1 := S0.on hb1
      have k1 := (S1.nth 1 rfl).six.1
      clear S0
      go_wp2_with fail
      refine (HCV.out w1 S1.below).mono ?_
      rintro e w2 ⟨rfl, hb2⟩
      rw [HV.out]
      have S2 := S1.on hb2
      have q1 := (S2.nth 0 rfl).one
      clear S1 k1
      go_wp2
      refine bodyPost_ret (v := .agg #[.slice none 0 0]) (by simp [results, Try.results7, go_sem, q1]) rfl ?_
      exact answerS_nil HE.out (S2.below.setCell (by simp; omega) _)
    · have HE : Hid (addR vs v = keepL vs v) := by unfold Hid addR; rw [HO.out, hvv]; rfl
      have HV := hide hvv
      obtain ⟨k0, k3⟩ := verV_key hvv
      obtain ⟨kn, hkn⟩ := Int.eq_ofNat_of_zero_le k0
      have hkn4 : kn < 4 := by omega
      have HKN := hide hkn
      clear hvv hkn k0 k3
      go_enter Try.func7, Try.ntmps7
      go_wp2_with fail
      generalize ((w.alloc (.cells #[.slice a vs.length c] 25)).alloc (.cells (verC v.k v.t v.u v.a v.ts.length v.c v.s v.g) 32)).alloc (.cells #[.slice none 0 0] 25) = W at S0 ⊢
      refine (implStoreOk_any a c vs W hn HMS.out ((hv.on S0.below).up S0.base)).mono ?_
      rintro e w1 ⟨rfl, hb1⟩
      rw [HO.out]
      have S1 := S0.on hb1
      have k1 := (S1.nth 1 rfl).six.1
      clear S0
      go_wp2_with fail
      refine (HCV.out w1 S1.below).mono ?_
      rintro e w2 ⟨rfl, hb2⟩
      rw [HV.out]
      have S2 := S1.on hb2
      have zr := S2.room
      have zb := S2.base
      have S3 : Inv w (w.heap.size + 1 + 1) [(w.heap.size + 1, 32, (verC v.k v.t v.u v.a v.ts.length v.c v.s v.g)), (w.heap.size, 25, #[.slice a vs.length c])] w2 := ⟨S2.below, by omega, fun x hx => by
        simp only [List.mem_cons, List.not_mem_nil, or_false] at hx
        rcases hx with rfl | rfl
        · exact ⟨by simp, by simp, S2.nth 1 rfl⟩
        · exact ⟨Nat.le_refl _, by simp only; omega, S2.nth 2 rfl⟩⟩
      have B3 := S2.nth 0 rfl
      clear S1 k1
      go_wp2_with fail
      refine wp_region_noPanic ?_
      refine wp_region_held_drew (S := (fun w' => w'.cell? ⟨w.heap.size, 0, none⟩ = some (.slice a vs.length c) ∧ (w'.cell? ⟨w.heap.size + 1, 0, none⟩ = some (.int .i64 v.k) ∧ w'.cell? ⟨w.heap.size + 1, 1, none⟩ = some (.int .i64 v.t) ∧ w'.cell? ⟨w.heap.size + 1, 2, none⟩ = some (.int .i64 v.u) ∧ w'.cell? ⟨w.heap.size + 1, 3, none⟩ = some (.slice v.a v.ts.length v.c) ∧ w'.cell? ⟨w.heap.size + 1, 4, none⟩ = some (.string v.s) ∧ w'.cell? ⟨w.heap.size + 1, 5, none⟩ = some (.bool v.g)) ∧ Inv w (w.heap.size + 1 + 1) [(w.heap.size + 1, 32, (verC v.k v.t v.u v.a v.ts.length v.c v.s v.g)), (w.heap.size, 25, #[.slice a vs.length c])] w' ∧ (∃ y, Blk w' (w.heap.size + 1 + 1) 25 #[y]) ∧ w2.heap.size ≤ w'.heap.size)) (by kernel_rfl) (by exact ⟨(S3.drew.nth 1 rfl).at 0, (S3.drew.nth 0 rfl).six.1, S3.drew, ⟨_, B3.drew⟩, Nat.le_refl _⟩) (fun hHeld => ?_)
      refine take_run 0 (some 14) (v := ?_) rfl rfl (by kernel_rfl) (by kernel_rfl) (by kernel_rfl) (fun _ _ _ h => h) (by rfl) ?_ hHeld ?_
      rotate_left
      · ((intro w hSw); (try dsimp only at hSw); go_simp <;> with_reducible rfl)
      simp only [Act.put, List.setIfInBounds_toArray, List.set_cons_zero, List.set_cons_succ]
      refine take_run 1 (some 15) (v := ?_) rfl rfl (by kernel_rfl) (by kernel_rfl) (by kernel_rfl) (fun _ _ _ h => h) (by rfl) ?_ hHeld ?_
      rotate_left
      · ((intro w hSw); (try dsimp only at hSw); go_simp <;> with_reducible rfl)
      simp only [Act.put, List.setIfInBounds_toArray, List.set_cons_zero, List.set_cons_succ]
      refine take_run 3 (some 17) (v := ?_) rfl rfl (by kernel_rfl) (by kernel_rfl) (by kernel_rfl) (fun _ _ _ h => h) (by rfl) ?_ hHeld ?_
      rotate_left
      · ((intro w hSw); (try dsimp only at hSw); go_simp <;> with_reducible rfl)
      simp only [Act.put, List.setIfInBounds_toArray, List.set_cons_zero, List.set_cons_succ]
      refine take_one 2 (by kernel_rfl) rfl (fun K hK => ?_)
      go_simp
      (have zh := hHeld.2.2.2.2; refine (copyVers_any a c vs _ hn (fun v hv => (HMS.out v hv).1) ((hv.on hHeld.2.2.1.below).up hHeld.2.2.1.base)).mono ?_; rintro e w4 ⟨x, us, rfl, hul, hli, hCR, hb⟩; have HL3 := hide hul; have HI3 := hide hli; obtain ⟨G, cap, cur, rfl, hO⟩ := res_four hCR.res (hul.trans H4.out); have HO3 := hide hO; have z4 : w2.heap.size ≤ w4.heap.size := (by have := hb.size; simp at this; omega))
      try go_wp2_with fail
      refine hK.out _ _ (by exact ⟨((hHeld.2.2.1.on hb).nth 1 rfl).at 0, ((hHeld.2.2.1.on hb).nth 0 rfl).six.1, hHeld.2.2.1.on hb, hHeld.2.2.2.1.elim (fun y h => ⟨y, h.on hb⟩), Nat.le_trans hHeld.2.2.2.2 hb.size⟩) (fun hHeld => ?_)
      clear hK K
      refine take_one 4 (by kernel_rfl) rfl (fun K hK => ?_)
      go_simp
      (have C4 := keepLater_any _ _ G cap us cur v kn w4 HO3.out (Nat.le_refl _) (HL3.out.trans H4.out) HKN.out hkn4 hn1 ((HT.out.on hHeld.2.2.1.below).up hHeld.2.2.1.base); (with_reducible refine C4.mono ?_); rintro e w5 ⟨us', cur', rfl, hl', hli', hO', hT⟩; have HL4 := hide hl'; have HI4 := hide hli'; have HO4 := hide hO'; have HT4 := hide hT; have I5 := hHeld.2.2.1.turned hT (fun g e => by have := HO3.out.lo; have e' : g = G := e; simp at this; omega) (fun x hx e => by have e' : x.1 = G := e; have := HO3.out.lo; simp only [List.mem_cons, List.not_mem_nil, or_false] at hx; simp at this; rcases hx with rfl | rfl <;> simp only at e' <;> omega); obtain ⟨y5, hy5⟩ := hHeld.2.2.2.1; have B5 := hy5.turned hT (fun e => by have e' : w.heap.size + 1 + 1 = G := e; have := HO3.out.lo; simp at this; omega); have HB9 := hide B5; have q5 := B5.one)
      try go_wp2_with fail
      refine hK.out _ _ (by exact ⟨((I5).nth 1 rfl).at 0, ((I5).nth 0 rfl).six.1, I5, ⟨y5, B5⟩, Nat.le_trans hHeld.2.2.2.2 hT.size⟩) (fun hHeld => ?_)
      clear hK K
      refine take_run 5 (some 19) (v := ?_) rfl rfl (by kernel_rfl) (by kernel_rfl) (by kernel_rfl) (fun _ _ _ h => h) (by rfl) ?_ hHeld ?_
      rotate_left
      · ((intro w hSw); (try dsimp only at hSw); go_simp <;> with_reducible rfl)
      simp only [Act.put, List.setIfInBounds_toArray, List.set_cons_zero, List.set_cons_succ]
      refine take_one 6 (by kernel_rfl) rfl (fun K hK => ?_)
      go_simp
      refine hK.out _ _ (by exact ⟨((I5.set (p := ⟨w.heap.size + 1 + 1, 0, none⟩) (by simp) (by simp; omega) _).nth 1 rfl).at 0, ((I5.set (p := ⟨w.heap.size + 1 + 1, 0, none⟩) (by simp) (by simp; omega) _).nth 0 rfl).six.1, I5.set (p := ⟨w.heap.size + 1 + 1, 0, none⟩) (by simp) (by simp; omega) _, ⟨_, B5.put 0 _⟩, by simpa [World.setCell] using hHeld.2.2.2.2⟩) (fun hHeld => ?_)
      clear hK K
      refine wpAnyH_done (by kernel_rfl) ?_ _
      refine NoPanic.normal ?_
      obtain ⟨-, -, I9, ⟨y9, hy9⟩, z9⟩ := hHeld
      have B9 := HB9.out.put 0 (.slice (some ⟨G, 0, none⟩) 4 cap)
      simp only [List.setIfInBounds_toArray, List.set_cons_zero] at B9
      have q9 := B9.one
      have hGW : G ≠ w.heap.size + 1 + 1 := by have := HO3.out.lo; omega
      have HO9 := hide (HO4.out.aside (p := ⟨w.heap.size + 1 + 1, 0, none⟩) HB9.out store_ne_tag hGW (.slice (some ⟨G, 0, none⟩) 4 cap))
      clear S2 S3 B3
      go_wp2
      refine bodyPost_ret (v := .agg #[.slice (some ⟨G, 0, none⟩) 4 cap]) (by simp [results, Try.results7, go_sem, q9]) rfl ?_
      refine ⟨_, us', rfl, by rw [HE.out, HL4.out, HL3.out, keepL_len], by rw [HE.out]; exact like_trans (by rw [HL4.out, keepL_len]) HI4.out (like_keep HL3.out HI3.out), .inr ⟨G, cap, cur', by rw [HL4.out, HL3.out, H4.out], ?_⟩, ?_⟩
      · exact (HO9.out.low (by show w.heap.size ≤ w2.heap.size; omega)).wide (by simp [World.setCell])
      · exact I9.below

set_option maxRecDepth 100000 in
set_option maxHeartbeats 1000000 in
theorem specStoreAdd_any (a : Option Addr) (c : Nat) (vs : List V) (v : V) (w : World) (hn : vs.length ≤ 1048576) (hm : Small vs) (hv : Vg w w.heap.size a vs) (hn1 : v.ts.length ≤ 1048576) (hs1 : v.s.size ≤ 9223372036854775807) (ht : Tg w w.heap.size v.a v.ts) :
    Calls Try.prog 9 #[.agg #[.slice a vs.length c], .agg (verC v.k v.t v.u v.a v.ts.length v.c v.s v.g)] w (AnswerS w (addR vs v)) := by
  have S0 := (((Inv.start w).box 25 #[.slice a vs.length c]).box 32 (verC v.k v.t v.u v.a v.ts.length v.c v.s v.g)).box 25 #[.slice none 0 0]
  simp only [World.size_alloc] at S0
  have HMS := hide hm
  have HT := hide ht
  clear hm ht
  cases ho : storeB vs
  · have HE : Hid (addR vs v = []) := by unfold Hid addR; rw [ho]; rfl
    have HO := hide ho
    clear ho
    go_enter Try.func9, Try.ntmps9
    go_wp2_with fail
    generalize ((w.alloc (.cells #[.slice a vs.length c] 25)).alloc (.cells (verC v.k v.t v.u v.a v.ts.length v.c v.s v.g) 32)).alloc (.cells #[.slice none 0 0] 25) = W at S0 ⊢
    refine (l2StoreOk_any a c vs W hn HMS.out ((hv.on S0.below).up S0.base)).mono ?_
    rintro e w1 ⟨rfl, hb1⟩
    rw [HO.out]
    have S1 := S0.on hb1
    have q1 := (S1.nth 0 rfl).one
    clear S0
    go_wp2
    refine bodyPost_ret (v := .agg #[.slice none 0 0]) (by simp [results, Try.results9, go_sem, q1]) rfl ?_
    exact answerS_nil HE.out (S1.below.setCell (by simp; omega) _)
  · have HO := hide ho
    have H4 := hide (storeB_four ho)
    clear ho
    have CV : ∀ W : World, Below w.heap.size w W → Calls Try.prog 30 #[.agg (verC v.k v.t v.u v.a v.ts.length v.c v.s v.g)] W fun e w' => e = .returned (.bool (verV v)) ∧ Below W.heap.size W w' := fun W hb => l2Ok_any v.k v.t v.u v.a v.c v.ts v.s v.g W hn1 hs1 ((HT.out.on hb).up hb.size)
    have HCV := hide CV
    clear CV
    cases hvv : verV v
    · have HE : Hid (addR vs v = []) := by unfold Hid addR; rw [hvv]; simp
      have HV := hide hvv
      clear hvv
      go_enter Try.func9, Try.ntmps9
      go_wp2_with fail
      generalize ((w.alloc (.cells #[.slice a vs.length c] 25)).alloc (.cells (verC v.k v.t v.u v.a v.ts.length v.c v.s v.g) 32)).alloc (.cells #[.slice none 0 0] 25) = W at S0 ⊢
      refine (l2StoreOk_any a c vs W hn HMS.out ((hv.on S0.below).up S0.base)).mono ?_
      rintro e w1 ⟨rfl, hb1⟩
      rw [HO.out]
      have S1 := S0.on hb1
      have k1 := (S1.nth 1 rfl).six.1
      clear S0
      go_wp2_with fail
      refine (HCV.out w1 S1.below).mono ?_
      rintro e w2 ⟨rfl, hb2⟩
      rw [HV.out]
      have S2 := S1.on hb2
      have q1 := (S2.nth 0 rfl).one
      clear S1 k1
      go_wp2
      refine bodyPost_ret (v := .agg #[.slice none 0 0]) (by simp [results, Try.results9, go_sem, q1]) rfl ?_
      exact answerS_nil HE.out (S2.below.setCell (by simp; omega) _)
    · have HE : Hid (addR vs v = keepL vs v) := by unfold Hid addR; rw [HO.out, hvv]; rfl
      have HV := hide hvv
      obtain ⟨k0, k3⟩ := verV_key hvv
      obtain ⟨kn, hkn⟩ := Int.eq_ofNat_of_zero_le k0
      have hkn4 : kn < 4 := by omega
      have HKN := hide hkn
      clear hvv hkn k0 k3
      go_enter Try.func9, Try.ntmps9
      go_wp2_with fail
      generalize ((w.alloc (.cells #[.slice a vs.length c] 25)).alloc (.cells (verC v.k v.t v.u v.a v.ts.length v.c v.s v.g) 32)).alloc (.cells #[.slice none 0 0] 25) = W at S0 ⊢
      refine (l2StoreOk_any a c vs W hn HMS.out ((hv.on S0.below).up S0.base)).mono ?_
      rintro e w1 ⟨rfl, hb1⟩
      rw [HO.out]
      have S1 := S0.on hb1
      have k1 := (S1.nth 1 rfl).six.1
      clear S0
      go_wp2_with fail
      refine (HCV.out w1 S1.below).mono ?_
      rintro e w2 ⟨rfl, hb2⟩
      rw [HV.out]
      have S2 := S1.on hb2
      have zr := S2.room
      have zb := S2.base
      have S3 : Inv w (w.heap.size + 1 + 1) [(w.heap.size + 1, 32, (verC v.k v.t v.u v.a v.ts.length v.c v.s v.g)), (w.heap.size, 25, #[.slice a vs.length c])] w2 := ⟨S2.below, by omega, fun x hx => by
        simp only [List.mem_cons, List.not_mem_nil, or_false] at hx
        rcases hx with rfl | rfl
        · exact ⟨by simp, by simp, S2.nth 1 rfl⟩
        · exact ⟨Nat.le_refl _, by simp only; omega, S2.nth 2 rfl⟩⟩
      have B3 := S2.nth 0 rfl
      clear S1 k1
      go_wp2_with fail
      refine wp_region_noPanic ?_
      refine wp_region_held_drew (S := (fun w' => w'.cell? ⟨w.heap.size, 0, none⟩ = some (.slice a vs.length c) ∧ (w'.cell? ⟨w.heap.size + 1, 0, none⟩ = some (.int .i64 v.k) ∧ w'.cell? ⟨w.heap.size + 1, 1, none⟩ = some (.int .i64 v.t) ∧ w'.cell? ⟨w.heap.size + 1, 2, none⟩ = some (.int .i64 v.u) ∧ w'.cell? ⟨w.heap.size + 1, 3, none⟩ = some (.slice v.a v.ts.length v.c) ∧ w'.cell? ⟨w.heap.size + 1, 4, none⟩ = some (.string v.s) ∧ w'.cell? ⟨w.heap.size + 1, 5, none⟩ = some (.bool v.g)) ∧ Inv w (w.heap.size + 1 + 1) [(w.heap.size + 1, 32, (verC v.k v.t v.u v.a v.ts.length v.c v.s v.g)), (w.heap.size, 25, #[.slice a vs.length c])] w' ∧ (∃ y, Blk w' (w.heap.size + 1 + 1) 25 #[y]) ∧ w2.heap.size ≤ w'.heap.size)) (by kernel_rfl) (by exact ⟨(S3.drew.nth 1 rfl).at 0, (S3.drew.nth 0 rfl).six.1, S3.drew, ⟨_, B3.drew⟩, Nat.le_refl _⟩) (fun hHeld => ?_)
      refine take_run 0 (some 14) (v := ?_) rfl rfl (by kernel_rfl) (by kernel_rfl) (by kernel_rfl) (fun _ _ _ h => h) (by rfl) ?_ hHeld ?_
      rotate_left
      · ((intro w hSw); (try dsimp only at hSw); go_simp <;> with_reducible rfl)
      simp only [Act.put, List.setIfInBounds_toArray, List.set_cons_zero, List.set_cons_succ]
      refine take_run 2 (some 16) (v := ?_) rfl rfl (by kernel_rfl) (by kernel_rfl) (by kernel_rfl) (fun _ _ _ h => h) (by rfl) ?_ hHeld ?_
      rotate_left
      · ((intro w hSw); (try dsimp only at hSw); go_simp <;> with_reducible rfl)
      simp only [Act.put, List.setIfInBounds_toArray, List.set_cons_zero, List.set_cons_succ]
      refine take_one 1 (by kernel_rfl) rfl (fun K hK => ?_)
      go_simp
      (have zh := hHeld.2.2.2.2; refine (l2CopyStore_any a c vs _ hn (fun v hv => (HMS.out v hv).1) ((hv.on hHeld.2.2.1.below).up hHeld.2.2.1.base)).mono ?_; rintro e w4 ⟨x, us, rfl, hul, hli, hCR, hb⟩; have HL3 := hide hul; have HI3 := hide hli; obtain ⟨G, cap, cur, rfl, hO⟩ := res_four hCR.res (hul.trans H4.out); have HO3 := hide hO; have z4 : w2.heap.size ≤ w4.heap.size := (by have := hb.size; simp at this; omega))
      try go_wp2_with fail
      refine hK.out _ _ (by exact ⟨((hHeld.2.2.1.on hb).nth 1 rfl).at 0, ((hHeld.2.2.1.on hb).nth 0 rfl).six.1, hHeld.2.2.1.on hb, hHeld.2.2.2.1.elim (fun y h => ⟨y, h.on hb⟩), Nat.le_trans hHeld.2.2.2.2 hb.size⟩) (fun hHeld => ?_)
      clear hK K
      refine take_one 3 (by kernel_rfl) rfl (fun K hK => ?_)
      go_simp
      (have C4 := l2Add_any _ _ G cap us cur v kn w4 HO3.out (Nat.le_refl _) (HL3.out.trans H4.out) HKN.out hkn4 hn1 ((HT.out.on hHeld.2.2.1.below).up hHeld.2.2.1.base); (with_reducible refine C4.mono ?_); rintro e w5 ⟨us', cur', rfl, hl', hli', hO', hT⟩; have HL4 := hide hl'; have HI4 := hide hli'; have HO4 := hide hO'; have HT4 := hide hT; have I5 := hHeld.2.2.1.turned hT (fun g e => by have := HO3.out.lo; have e' : g = G := e; simp at this; omega) (fun x hx e => by have e' : x.1 = G := e; have := HO3.out.lo; simp only [List.mem_cons, List.not_mem_nil, or_false] at hx; simp at this; rcases hx with rfl | rfl <;> simp only at e' <;> omega); obtain ⟨y5, hy5⟩ := hHeld.2.2.2.1; have B5 := hy5.turned hT (fun e => by have e' : w.heap.size + 1 + 1 = G := e; have := HO3.out.lo; simp at this; omega); have HB9 := hide B5; have q5 := B5.one)
      try go_wp2_with fail
      refine hK.out _ _ (by exact ⟨((I5).nth 1 rfl).at 0, ((I5).nth 0 rfl).six.1, I5, ⟨y5, B5⟩, Nat.le_trans hHeld.2.2.2.2 hT.size⟩) (fun hHeld => ?_)
      clear hK K
      refine take_one 4 (by kernel_rfl) rfl (fun K hK => ?_)
      go_simp
      refine hK.out _ _ (by exact ⟨((I5.set (p := ⟨w.heap.size + 1 + 1, 0, none⟩) (by simp) (by simp; omega) _).nth 1 rfl).at 0, ((I5.set (p := ⟨w.heap.size + 1 + 1, 0, none⟩) (by simp) (by simp; omega) _).nth 0 rfl).six.1, I5.set (p := ⟨w.heap.size + 1 + 1, 0, none⟩) (by simp) (by simp; omega) _, ⟨_, B5.put 0 _⟩, by simpa [World.setCell] using hHeld.2.2.2.2⟩) (fun hHeld => ?_)
      clear hK K
      refine wpAnyH_done (by kernel_rfl) ?_ _
      refine NoPanic.normal ?_
      obtain ⟨-, -, I9, ⟨y9, hy9⟩, z9⟩ := hHeld
      have B9 := HB9.out.put 0 (.slice (some ⟨G, 0, none⟩) 4 cap)
      simp only [List.setIfInBounds_toArray, List.set_cons_zero] at B9
      have q9 := B9.one
      have hGW : G ≠ w.heap.size + 1 + 1 := by have := HO3.out.lo; omega
      have HO9 := hide (HO4.out.aside (p := ⟨w.heap.size + 1 + 1, 0, none⟩) HB9.out store_ne_tag hGW (.slice (some ⟨G, 0, none⟩) 4 cap))
      clear S2 S3 B3
      go_wp2
      refine bodyPost_ret (v := .agg #[.slice (some ⟨G, 0, none⟩) 4 cap]) (by simp [results, Try.results9, go_sem, q9]) rfl ?_
      refine ⟨_, us', rfl, by rw [HE.out, HL4.out, HL3.out, keepL_len], by rw [HE.out]; exact like_trans (by rw [HL4.out, keepL_len]) HI4.out (like_keep HL3.out HI3.out), .inr ⟨G, cap, cur', by rw [HL4.out, HL3.out, H4.out], ?_⟩, ?_⟩
      · exact (HO9.out.low (by show w.heap.size ≤ w2.heap.size; omega)).wide (by simp [World.setCell])
      · exact I9.below
end Go.Proofs.Ytgofeljmpkhkbaa
