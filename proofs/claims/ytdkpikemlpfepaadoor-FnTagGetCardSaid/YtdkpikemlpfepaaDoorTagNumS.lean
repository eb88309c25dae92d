/- Contract of the model's reading of figures. Condition: at most 1048576 letters. -/
import Derived.Test.YtdkpikemlpfepaaDoorTagGetPure
namespace Go.Proofs.YtdkpikemlpfepaaDoor
open Go.RowKit Go.Joins
attribute [local go_sem ↓] Go.wp_at_zero Go.wp_at_succ

/-- What l1Num answers: in its bounds, and the number that is written just so. -/
def NumM (l : List UInt8) (n : Int) : Prop := -1 ≤ n ∧ n ≤ 999999 ∧ ∀ a : Nat, a ≤ 999 → l = Lib.decDigits a → n = a
theorem digits_len (a : Nat) (h : a ≤ 999) : (Lib.decDigits a).length ≤ 3 := by
  rw [Lib.decDigits]
  split
  · simp
  · rw [Lib.decDigits]
    split
    · simp
    · rw [Lib.decDigits, dif_pos (by omega)]
      simp
theorem digits_head (a : Nat) : 1 ≤ a → ∀ c, (Lib.decDigits a)[0]? = some c → c ≠ 48 := by
  induction a using Nat.strongRecOn with
  | ind a ih =>
    intro h c hc
    rw [Lib.decDigits] at hc
    split at hc
    · rename_i h10
      have hc' : UInt8.ofNat (48 + a) = c := Option.some.inj hc
      subst hc'
      intro e
      have := congrArg UInt8.toNat e
      rw [fig_nat h10] at this
      have h48 : (48 : UInt8).toNat = 48 := rfl
      omega
    · rename_i h10
      have hn := digits_ne (a / 10)
      rw [List.getElem?_append_left (List.length_pos_iff.2 hn)] at hc
      exact ih (a / 10) (by omega) (by omega) c hc
theorem digits_one (a : Nat) (h : (Lib.decDigits a)[0]? = some 48) : (Lib.decDigits a).length ≤ 1 := by
  rcases Nat.eq_zero_or_pos a with rfl | ha
  · rw [Lib.decDigits]; simp
  · exact absurd rfl (digits_head a ha 48 h)
theorem numM_no {l : List UInt8} (h : ∀ a : Nat, a ≤ 999 → l ≠ Lib.decDigits a) : NumM l (-1) := ⟨by omega, by omega, fun a ha e => absurd e (h a ha)⟩
theorem numM_yes {l : List UInt8} {m : Nat} (hm : m ≤ 999999) (h : m = valL 0 l) : NumM l (m : Int) := ⟨by omega, by omega, fun a _ e => by rw [h, e, digits_val]⟩
theorem numM_fig {l : List UInt8} {c : UInt8} (hc : c ∈ l) (h : ¬ (48 ≤ c.toNat ∧ c.toNat ≤ 57)) : NumM l (-1) := numM_no fun a _ e => h (digits_figs a c (by rw [← e]; exact hc))
theorem numM_long {l : List UInt8} (h : 3 < l.length) : NumM l (-1) := numM_no fun a ha e => by
  have := digits_len a ha
  rw [← e] at this
  omega
theorem numM_nil {l : List UInt8} (h : l.length = 0) : NumM l (-1) := numM_no fun a _ e => digits_ne a (by rw [← e]; exact List.length_eq_zero_iff.1 h)
theorem numM_nought {l : List UInt8} (h : 1 < l.length) (h0 : l[0]? = some 48) : NumM l (-1) := numM_no fun a _ e => by
  have := digits_one a (by rw [← e]; exact h0)
  rw [← e] at this
  omega
theorem at_list {s : ByteArray} {k : Nat} (h : k < s.size) : s.data.toList[k]? = some s[k] := by
  rw [Array.getElem?_toList]
  exact Array.getElem?_eq_getElem h
theorem len_list (s : ByteArray) : s.data.toList.length = s.size := by rw [Array.length_toList]; rfl
theorem val_step {l : List UInt8} {k : Nat} {c : UInt8} (h : l[k]? = some c) : valL 0 (l.take (k + 1)) = valL 0 (l.take k) * 10 + (c.toNat - 48) := by
  rw [List.take_add_one, h]
  unfold valL
  rw [List.foldl_append]
  rfl
theorem fig_wrap {x : Nat} (h1 : 48 ≤ x) (h2 : x ≤ 57) : IntKind.u8.wrap ((x : Int) - 48) = ((x - 48 : Nat) : Int) := by
  rw [IntKind.wrap_u8']
  omega
set_option maxRecDepth 100000 in
set_option maxHeartbeats 4000000 in
theorem l1Num_any (s : ByteArray) (hs : s.size ≤ 1048576) (w : World) :
    Calls Tryd.prog 27 #[.string s] w fun e w' => (∃ n : Int, e = .returned (.int .i64 n) ∧ NumM s.data.toList n) ∧ w = w' := by
  have LL := hide (len_list s)
  go_enter Tryd.func27, Tryd.ntmps27
  go_wp2
  go_loop [3, 4] (fun r i => ∃ (k m : Nat), k ≤ s.size ∧ k ≤ 6 ∧ i = .int .i64 (k : Int) ∧ r = .int .i64 (m : Int) ∧ m ≤ 999999 ∧ Hid (m = valL 0 (s.data.toList.take k)) ∧ Hid (m < 10 ^ k)) (fun _ i => s.size - (intOf i).toNat)
  case atStart => exact ⟨0, 0, Nat.zero_le _, by omega, rfl, rfl, by omega, rfl, by unfold Hid; decide⟩
  case round =>
    obtain ⟨k, m, hk, hk6, rfl, rfl, hm6, hm, hp⟩ := hrel
    by_cases hlt : k < s.size
    · have HA := hide (at_list hlt)
      obtain ⟨c, hc⟩ : ∃ c, c = s[k] := ⟨_, rfl⟩
      have HM : Hid (c ∈ s.data.toList) := List.mem_of_getElem? (by rw [hc]; exact HA.out)
      have i1 : (0 : Int) ≤ (k : Int) := by omega
      have i2 : (k : Int) < (s.size : Int) := by omega
      have hv : s[k] = c := hc.symm
      clear hc
      by_cases h48 : c.toNat < 48
      · have HN := hide (numM_fig HM.out (by omega))
        have h48' : (c.toNat : Int) < 48 := by omega
        go_wp2
        go_ret
        exact ⟨⟨-1, rfl, HN.out⟩, rfl⟩
      by_cases h57 : 57 < c.toNat
      · have HN := hide (numM_fig HM.out (by omega))
        have h48' : ¬ ((c.toNat : Int) < 48) := by omega
        have h57' : 57 < (c.toNat : Int) := by omega
        go_wp2
        go_ret
        exact ⟨⟨-1, rfl, HN.out⟩, rfl⟩
      have h48' : ¬ ((c.toNat : Int) < 48) := by omega
      have h57' : ¬ (57 < (c.toNat : Int)) := by omega
      by_cases h6 : k < 6
      · have h6' : ¬ (6 ≤ (k : Int)) := by omega
        have hw1 := fig_wrap (by omega) (by omega : c.toNat ≤ 57)
        have HV := hide (val_step HA.out)
        rw [hv, ← hm.out] at HV
        obtain ⟨z, hz⟩ : ∃ z, z = c.toNat - 48 := ⟨_, rfl⟩
        have hz9 : z ≤ 9 := by omega
        rw [← hz] at HV hw1
        have HP : Hid (m * 10 + z < 10 ^ (k + 1)) := by
          have := hp.out
          unfold Hid
          rw [Nat.pow_succ]
          omega
        have hle : m * 10 + z ≤ 999999 := by
          have h1 := HP.out
          have h2 : 10 ^ (k + 1) ≤ 10 ^ 6 := Nat.pow_le_pow_right (by omega) (by omega)
          omega
        go_wp2
        exact ⟨⟨k + 1, m * 10 + z, by omega, by omega, by go_num, by go_num, hle, HV.out.symm, HP⟩, by simp [intOf]; omega⟩
      · have h6' : 6 ≤ (k : Int) := by omega
        have HN := hide (numM_long (l := s.data.toList) (by rw [LL.out]; omega))
        go_wp2
        go_ret
        exact ⟨⟨-1, rfl, HN.out⟩, rfl⟩
    · have hkn : k = s.size := by omega
      subst hkn
      have HE : Hid (m = valL 0 s.data.toList) := by
        have := hm.out
        rw [← LL.out, List.take_length] at this
        exact this
      clear hlt
      by_cases h0 : s.size = 0
      · have HN := hide (numM_nil (l := s.data.toList) (by rw [LL.out]; exact h0))
        have h0' : (s.size : Int) = 0 := by omega
        go_wp2
        go_ret
        exact ⟨⟨-1, rfl, HN.out⟩, rfl⟩
      have h0' : ¬ ((s.size : Int) = 0) := by omega
      by_cases h1 : 1 < s.size
      · have h1' : 1 < (s.size : Int) := by omega
        have hp0 : 0 < s.size := by omega
        have hp0' : 0 < (s.size : Int) := by omega
        have HA := hide (at_list hp0)
        obtain ⟨c, hc⟩ : ∃ c, c = s[0] := ⟨_, rfl⟩
        have hv : s[0] = c := hc.symm
        rw [hv] at HA
        clear hc
        by_cases h48 : c = 48
        · subst h48
          have HN := hide (numM_nought (l := s.data.toList) (by rw [LL.out]; exact h1) HA.out)
          go_wp2
          go_ret
          exact ⟨⟨-1, rfl, HN.out⟩, rfl⟩
        · have h48' : ¬ ((c.toNat : Int) = 48) := fun e => h48 (UInt8.toNat_inj.1 (by have : (48 : UInt8).toNat = 48 := rfl; omega))
          have HN := hide (numM_yes hm6 HE.out)
          have e1 : ((s.size : Int) == 0) = false := beq_eq_false_iff_ne.2 h0'
          have e2 : ((c.toNat : Int) == 48) = false := beq_eq_false_iff_ne.2 h48'
          have e3 : (((s.size : Int) == 0) || ((c.toNat : Int) == 48)) = false := by rw [e1, e2]; rfl
          go_wp2
          go_ret
          exact ⟨⟨m, rfl, HN.out⟩, rfl⟩
      · have h1' : ¬ (1 < (s.size : Int)) := by omega
        have HN := hide (numM_yes hm6 HE.out)
        go_wp2
        go_ret
        exact ⟨⟨m, rfl, HN.out⟩, rfl⟩
end Go.Proofs.YtdkpikemlpfepaaDoor
