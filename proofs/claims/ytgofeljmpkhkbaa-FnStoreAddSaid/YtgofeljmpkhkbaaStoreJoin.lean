/- Contracts of StoreJoin, of program and model. Condition: as many versions and tags as a law lets by. -/
import Derived.Test.YtgofeljmpkhkbaaStoreRes
namespace Go.Proofs.Ytgofeljmpkhkbaa
open Go.RowKit Go.Joins
attribute [local go_sem ↓] Go.wp_at_zero Go.wp_at_succ

/-- A row with all of another row let in. -/
def foldK (us bs : List V) : List V := bs.foldl keepL us
theorem foldK_step {us bs : List V} {k : Nat} {v : V} (h : bs[k]? = some v) : foldK us (bs.take (k + 1)) = keepL (foldK us (bs.take k)) v := by
  unfold foldK
  rw [List.take_add_one, h, List.foldl_append]
  rfl
theorem foldK_len (us bs : List V) : (foldK us bs).length = us.length := by
  induction bs generalizing us with
  | nil => rfl
  | cons v r ih =>
    show (foldK (keepL us v) r).length = us.length
    rw [ih, keepL_len]
/-- What StoreJoin answers. -/
def joinR (vs bs : List V) : List V := if (storeB vs && storeB bs) = true then foldK vs bs else []
theorem store_slot {bs : List V} {i : Nat} {v : V} (h : storeB bs = true) (hi : bs[i]? = some v) : slotB i v = true := by
  apply Classical.byContradiction
  intro hn
  rw [storeB_bad hi (by simpa using hn)] at h
  cases h
theorem slot_key {i : Nat} {v : V} (h : slotB i v = true) (hi : i < 4) : 0 ≤ v.k ∧ v.k ≤ 3 := by
  cases hn : noneC v.k v.t v.u v.ts.length v.s v.g with
  | true =>
    unfold noneC at hn
    simp at hn
    omega
  | false =>
    by_cases hk : v.k = i
    · omega
    · rw [slotB_key hn hk] at h
      cases h
theorem slot_late {i : Nat} {v : V} (h : slotB i v = true) (ht : ¬ 0 < v.t) : v.k = 0 ∧ v.t = 0 ∧ v.u = 0 := by
  cases hn : noneC v.k v.t v.u v.ts.length v.s v.g with
  | true =>
    unfold noneC at hn
    simp at hn
    omega
  | false =>
    exfalso
    cases hb : verB v.k v.t v.u v.ts v.s v.g with
    | false => rw [slotB_bad hn hb] at h; cases h
    | true =>
      have : verB v.k v.t v.u v.ts v.s v.g = false := by
        cases ho : okB v.t v.u with
        | false => exact verB_f (.inr (.inr (.inl ho)))
        | true =>
          have := okB_i ho
          exact verB_f (.inr (.inr (.inr (.inl (by omega)))))
      rw [this] at hb
      cases hb
/-- No tag is earlier than nothing. -/
def Late (us : List V) : Prop := ∀ x ∈ us, lessB x.t x.u 0 0 = false
theorem slot_ge {i : Nat} {v : V} (h : slotB i v = true) : lessB v.t v.u 0 0 = false := by
  by_cases ht : 0 < v.t
  · exact decide_eq_false (by omega)
  · obtain ⟨_, h1, h2⟩ := slot_late h ht
    rw [h1, h2]
    exact decide_eq_false (by omega)
theorem late_store {vs : List V} (h : storeB vs = true) : Late vs := fun x hx => by
  obtain ⟨i, hi⟩ := List.getElem?_of_mem hx
  exact slot_ge (store_slot h hi)
theorem late_keep {us : List V} {v : V} (h : Late us) (hv : lessB v.t v.u 0 0 = false) : Late (keepL us v) := fun x hx => by
  unfold keepL at hx
  split at hx
  · split at hx
    · rcases List.mem_or_eq_of_mem_set hx with hx | rfl
      · exact h x hx
      · exact hv
    · exact h x hx
  · exact h x hx
theorem keep_none {us : List V} {v : V} (h : Late us) (ht : v.t = 0) (hu : v.u = 0) : keepL us v = us := by
  cases hx : us[v.k.toNat]? with
  | none => unfold keepL; rw [hx]
  | some x => exact keepL_no hx (by rw [ht, hu]; exact h x (List.mem_of_getElem? hx))
theorem late_fold {vs bs : List V} (hv : storeB vs = true) (hb : storeB bs = true) (k : Nat) : Late (foldK vs (bs.take k)) := by
  induction k with
  | zero => exact late_store hv
  | succ k ih =>
    by_cases hk : k < bs.length
    · rw [foldK_step (List.getElem?_eq_getElem hk)]
      exact late_keep ih (slot_ge (store_slot hb (List.getElem?_eq_getElem hk)))
    · rw [List.take_of_length_le (by omega), ← List.take_of_length_le (l := bs) (i := k) (by omega)]
      exact ih
theorem below_turn {G n : Nat} {w w' : World} (ht : Turn (fun g => g = G) w w') (hn : n ≤ w.heap.size) (hG : n ≤ G) : Below n w w' :=
  ⟨ht.os, ht.tape, ht.output, ht.size, fun k hk => ht.block k (by omega) (fun e => by omega)⟩
theorem few_fold : ∀ (bs vs : List V), Few vs → (∀ v ∈ bs, v.ts.length ≤ 4) → Few (foldK vs bs)
  | [], _, h, _ => h
  | v :: r, vs, h, hb => few_fold r (keepL vs v) (few_keep h (hb v (List.mem_cons_self ..))) (fun x hx => hb x (List.mem_cons_of_mem _ hx))
theorem few_join (vs bs : List V) : Few (joinR vs bs) := by
  unfold joinR
  split
  · rename_i h
    rw [Bool.and_eq_true] at h
    exact few_fold bs vs (few_store h.1) (few_store h.2).2
  · exact ⟨by simp, fun v hv => by simp at hv⟩

/-- What letting a whole row in leaves. -/
def FoldL (w : World) (B G : Nat) (rs : List V) (x : Value) (e : Ending) (w' : World) : Prop :=
  ∃ (us' : List V) (cur' : Array Value), e = .returned x ∧ us'.length = rs.length ∧ Like us' rs ∧ ORow w' B w'.heap.size G us' cur' ∧ Turn (fun g => g = G) w w'

set_option maxRecDepth 100000 in
set_option maxHeartbeats 1000000 in
theorem foldKeep_any (B0 B U G cx c : Nat) (a : Option Addr) (us bs : List V) (cur : Array Value) (w : World) (hR : ORow w B U G us cur) (hU : U ≤ w.heap.size) (h4 : us.length = 4) (hB0 : B0 ≤ B) (hB0w : B0 ≤ w.heap.size) (hs : storeB bs = true) (hv : Vg w B0 a bs) :
    Calls Try.prog 41 #[.slice a 4 c, .slice (some ⟨G, 0, none⟩) 4 cx, .func (.func 26) #[] #[]] w (FoldL w B G (foldK us bs) (.slice (some ⟨G, 0, none⟩) 4 cx)) := by
  have HS := hide hs
  have HB4 := hide (storeB_four hs)
  have HU4 := hide h4
  have HFW := hide (few_store hs)
  have hlo := hR.lo
  have HTL : Hid (foldK us (bs.take 4) = foldK us bs) := by unfold Hid; rw [List.take_of_length_le (Nat.le_of_eq HB4.out)]
  clear hs h4
  go_enter Try.func41, Try.ntmps41
  go_wp2
  go_loopw [1, 11] (fun r i wr => ∃ (k : Nat) (us' : List V) (cur' : Array Value), k ≤ 4 ∧ i = .int .i64 (k : Int) ∧ r = .slice (some ⟨G, 0, none⟩) 4 cx ∧ Hid (us'.length = 4) ∧ Hid (Like us' (foldK us (bs.take k))) ∧ Hid (ORow wr B wr.heap.size G us' cur') ∧ Hid (Turn (fun g => g = G) w wr)) (fun _ i _ => 4 - (intOf i).toNat)
  case atStart => exact ⟨0, us, cur, Nat.zero_le _, rfl, rfl, HU4.out, like_refl us, hR.wide hU, Turn.refl _ _⟩
  case round =>
    obtain ⟨k, us', cur', hk, rfl, rfl, HL', HI', HO', HT'⟩ := hrel
    clear hR
    by_cases hlt : k < 4
    · have hbl := below_turn HT'.out hB0w (by omega)
      have hz := HT'.out.size
      rcases hv with h0 | ⟨b, off, rfl, hb, hx⟩
      · have := HB4.out; subst h0; simp at this
      · have hkl : k < bs.length := by have := HB4.out; omega
        obtain ⟨hS, hT⟩ := hx k _ (List.getElem?_eq_getElem hkl)
        have HX := hide (List.getElem?_eq_getElem hkl)
        generalize bs[k] = v at hS hT HX
        obtain ⟨k0, k3⟩ := slot_key (store_slot HS.out HX.out) hlt
        obtain ⟨kn, hkn⟩ := Int.eq_ofNat_of_zero_le k0
        have hkn4 : kn < 4 := by omega
        have HKN := hide hkn
        have HF := hide (HFW.out.2 v (List.mem_of_getElem? HX.out))
        obtain ⟨s0, s1, s2, s3, s4, s5⟩ := hS.keep hb fun _ hp => hbl.cell hp
        have HT := hide ((hT.on hbl).up (show B0 ≤ wr.heap.size by omega))
        have i1 : (0 : Int) ≤ (k : Int) := by omega
        have i2 : (k : Int) < 4 := by omega
        have HLA := hide (below_alloc1 wr (.cells (verC v.k v.t v.u v.a v.ts.length v.c v.s v.g) 32))
        have hbw : b < wr.heap.size := by omega
        clear hS hT hx hkn k0 k3
        go_wp2_with fail
        refine (keepLater_any B wr.heap.size G cx us' cur' v kn _ (HO'.out.on HLA.out) (by simp) HL'.out HKN.out hkn4 (by have := HF.out; omega) ((HT.out.on HLA.out).up HLA.out.size)).mono ?_
        rintro e w1 ⟨us2, cur2, rfl, hl2, hli2, hO2, hT2⟩
        have H2 : Hid (us2.length = 4) := hl2.trans HL'.out
        have H3 : Hid (Like us2 (foldK us (bs.take (k + 1)))) := by
          unfold Hid
          rw [foldK_step HX.out]
          exact like_trans (by rw [hl2, keepL_len]) hli2 (like_keep (by rw [HL'.out, foldK_len, HU4.out]) HI'.out)
        have H4 := hide hO2
        have H5 := hide ((HT'.out.trans (.below HLA.out)).trans hT2)
        clear s0 s1 s2 s3 s4 s5 hl2 hli2 hO2 hT2
        go_wp2
        exact ⟨⟨k + 1, us2, cur2, by omega, by go_num, rfl, H2, H3, H4, H5⟩, by simp [intOf]; omega⟩
    · have hkn : k = 4 := by omega
      subst hkn
      clear hlt
      go_wp2
      go_ret
      exact ⟨us', cur', rfl, by rw [HL'.out, foldK_len, HU4.out], by have := HI'.out; rw [HTL.out] at this; exact this, HO'.out, HT'.out⟩
end Go.Proofs.Ytgofeljmpkhkbaa
