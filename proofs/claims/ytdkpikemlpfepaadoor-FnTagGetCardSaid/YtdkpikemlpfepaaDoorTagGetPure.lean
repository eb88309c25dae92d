/- Reading what is written: numbers, and two of them round a point, said plainly. No condition. -/
import Derived.Test.YtdkpikemlpfepaaDoorItoaText
import Derived.Test.YtdkpikemlpfepaaDoorTagPutI
import Derived.Lib.AtoiAll
import Derived.Lib.IndexMore
namespace Go.Proofs.YtdkpikemlpfepaaDoor
open Go.RowKit Go.Joins

/-- Figures. -/
def Figs (l : List UInt8) : Prop := ∀ c ∈ l, 48 ≤ c.toNat ∧ c.toNat ≤ 57
def valL (acc : Nat) (l : List UInt8) : Nat := l.foldl (fun a c => a * 10 + (c.toNat - 48)) acc
theorem fig_nat {n : Nat} (h : n < 10) : (UInt8.ofNat (48 + n)).toNat = 48 + n := by
  rw [UInt8.toNat_ofNat']
  omega
theorem digits_figs (n : Nat) : Figs (Lib.decDigits n) := by
  induction n using Nat.strongRecOn with
  | ind n ih =>
    rw [Lib.decDigits]
    split
    · rename_i h
      intro c hc
      rw [List.mem_singleton.1 hc, fig_nat h]
      omega
    · intro c hc
      rcases List.mem_append.1 hc with hc | hc
      · exact ih (n / 10) (by omega) c hc
      · rw [List.mem_singleton.1 hc, fig_nat (by omega)]
        omega
theorem digits_val (n : Nat) : valL 0 (Lib.decDigits n) = n := by
  induction n using Nat.strongRecOn with
  | ind n ih =>
    rw [Lib.decDigits]
    split
    · rename_i h
      show 0 * 10 + ((UInt8.ofNat (48 + n)).toNat - 48) = n
      rw [fig_nat h]
      omega
    · have := ih (n / 10) (by omega)
      unfold valL at *
      rw [List.foldl_append, this]
      show n / 10 * 10 + ((UInt8.ofNat (48 + n % 10)).toNat - 48) = n
      rw [fig_nat (by omega)]
      omega
theorem digits_ne (n : Nat) : Lib.decDigits n ≠ [] := by
  rw [Lib.decDigits]
  split
  · simp
  · simp
theorem valL_ge : ∀ (l : List UInt8) (acc : Nat), acc ≤ valL acc l
  | [], acc => Nat.le_refl _
  | c :: r, acc => by
    have := valL_ge r (acc * 10 + (c.toNat - 48))
    show acc ≤ valL (acc * 10 + (c.toNat - 48)) r
    omega
theorem parse_figs : ∀ (l : List UInt8) (acc : Nat), Figs l → valL acc l < 1000000000000000000 → Lib.parseUint10 acc l = .ok (valL acc l)
  | [], acc, _, _ => rfl
  | c :: r, acc, hf, hv => by
    have h1 := hf c List.mem_cons_self
    have h2 := valL_ge r (acc * 10 + (c.toNat - 48))
    have h3 : valL (acc * 10 + (c.toNat - 48)) r < 1000000000000000000 := hv
    unfold Lib.parseUint10
    rw [if_pos h1, if_neg (by omega), if_neg (by omega)]
    exact parse_figs r _ (fun x hx => hf x (List.mem_cons_of_mem _ hx)) h3
theorem atoi_digits (n : Nat) (h : n ≤ 1000000) : Lib.atoiAll (Lib.decDigits n) = .ok (n : Int) := by
  have hf := digits_figs n
  have hv := digits_val n
  have hp := parse_figs _ 0 hf (by rw [hv]; omega)
  rw [hv] at hp
  cases hl : Lib.decDigits n with
  | nil => exact absurd hl (digits_ne n)
  | cons c r =>
    rw [hl] at hf hp
    have hc := hf c List.mem_cons_self
    unfold Lib.atoiAll
    simp only
    rw [if_neg (by omega)]
    have hm : Lib.parseMag (c :: r) = .ok n := by unfold Lib.parseMag; rw [if_neg (by simp)]; exact hp
    rw [hm]
    simp only
    rw [if_neg (by omega), if_neg (by omega), if_neg (by omega)]
theorem digits_inj {a b : Nat} (ha : a ≤ 1000000) (hb : b ≤ 1000000) (h : Lib.decDigits a = Lib.decDigits b) : a = b := by
  have h1 := atoi_digits a ha
  rw [h, atoi_digits b hb] at h1
  injection h1 with h1
  omega
theorem dot_digits (n : Nat) : (46 : UInt8) ∉ Lib.decDigits n := fun h => by
  have := digits_figs n 46 h
  revert this
  decide
theorem split_dot {a b c d : List UInt8} (ha : (46 : UInt8) ∉ a) (hc : (46 : UInt8) ∉ c) (h : a ++ 46 :: b = c ++ 46 :: d) : a = c ∧ b = d := by
  induction a generalizing c with
  | nil =>
    cases c with
    | nil => simp at h; exact ⟨rfl, h⟩
    | cons x r =>
      simp at h
      exact absurd (by rw [← h.1]; exact List.mem_cons_self) hc
  | cons y r ih =>
    cases c with
    | nil =>
      simp at h
      exact absurd (by rw [h.1]; exact List.mem_cons_self) ha
    | cons x q =>
      simp at h
      obtain ⟨rfl, h⟩ := h
      obtain ⟨h1, h2⟩ := ih (fun e => ha (List.mem_cons_of_mem _ e)) (fun e => hc (List.mem_cons_of_mem _ e)) h
      exact ⟨by rw [h1], h2⟩
theorem has_dot (l : List UInt8) : (46 : UInt8) ∉ l ∨ ∃ a r, (46 : UInt8) ∉ a ∧ l = a ++ 46 :: r := by
  induction l with
  | nil => exact .inl (by simp)
  | cons x l ih =>
    by_cases hx : x = 46
    · exact .inr ⟨[], l, by simp, by rw [hx]; rfl⟩
    · rcases ih with h | ⟨a, r, h1, h2⟩
      · exact .inl (fun h' => by
          rcases List.mem_cons.1 h' with h' | h'
          · exact hx h'.symm
          · exact h h')
      · exact .inr ⟨x :: a, r, fun h' => by
          rcases List.mem_cons.1 h' with h' | h'
          · exact hx h'.symm
          · exact h1 h', by rw [h2]; rfl⟩
theorem index_dot_no : ∀ {l : List UInt8}, (46 : UInt8) ∉ l → Lib.index l [46] = -1
  | [], _ => rfl
  | x :: l, h => by
    have hx : ¬ (46 : UInt8) = x := fun e => h (by rw [e]; exact List.mem_cons_self)
    have hi := index_dot_no (l := l) (fun e => h (List.mem_cons_of_mem _ e))
    unfold Lib.index
    rw [hi]
    simp [hx]
theorem index_dot : ∀ {a : List UInt8} (r : List UInt8), (46 : UInt8) ∉ a → Lib.index (a ++ 46 :: r) [46] = (a.length : Int)
  | [], r, _ => by
    show Lib.index (46 :: r) [46] = 0
    unfold Lib.index
    simp
  | x :: a, r, h => by
    have hx : ¬ (46 : UInt8) = x := fun e => h (by rw [e]; exact List.mem_cons_self)
    have hi := index_dot (a := a) r (fun e => h (List.mem_cons_of_mem _ e))
    show Lib.index (x :: (a ++ 46 :: r)) [46] = _
    unfold Lib.index
    rw [hi]
    have h1 : ¬ ((a.length : Int) = -1) := by omega
    simp [hx, h1]
theorem cut_no {l : List UInt8} (h : (46 : UInt8) ∉ l) : Lib.cut l [46] = (l, [], false) := by unfold Lib.cut; rw [index_dot_no h, if_neg (by omega)]
theorem cut_yes {a : List UInt8} (r : List UInt8) (h : (46 : UInt8) ∉ a) : Lib.cut (a ++ 46 :: r) [46] = (a, r, true) := by
  unfold Lib.cut
  rw [index_dot r h, if_pos (by omega)]
  simp
/-- What readNumber answers: the number that is written just so, or no. -/
def ReadN (s : List UInt8) (n : Int) (ok : Bool) : Prop :=
  (ok = true ∧ s = Lib.itoa n ∧ Lib.atoiAll s = .ok n) ∨ (ok = false ∧ n = 0 ∧ ∀ a : Nat, a ≤ 1000000 → s ≠ Lib.decDigits a)
theorem itoa_nat (a : Nat) : Lib.itoa (a : Int) = Lib.decDigits a := by unfold Lib.itoa; rw [if_neg (by omega), Int.toNat_natCast]
theorem readN_no {s : List UInt8} (h : ∀ v, Lib.atoiAll s = .ok v → Lib.itoa v ≠ s) : ReadN s 0 false := .inr ⟨rfl, rfl, fun a ha e => by
  subst e
  exact h _ (atoi_digits a ha) (itoa_nat a)⟩
/-- A tag's text, as a list. -/
theorem tagS_list (a b : Nat) : (tagS a b).data.toList = Lib.decDigits a ++ 46 :: Lib.decDigits b := by
  unfold tagS
  rw [decS_list, decS_list]
  simp [ByteArray.data_append]
theorem tagS_inj {a b c d : Nat} (ha : a ≤ 1000000) (hb : b ≤ 1000000) (hc : c ≤ 1000000) (hd : d ≤ 1000000) (h : tagS a b = tagS c d) : a = c ∧ b = d := by
  have h1 := congrArg (fun x => x.data.toList) h
  simp only [tagS_list] at h1
  obtain ⟨h2, h3⟩ := split_dot (dot_digits a) (dot_digits c) h1
  exact ⟨digits_inj ha hc h2, digits_inj hb hd h3⟩
/-- What TagGet answers: the tag that is written just so, or no. -/
def GetR (s : ByteArray) (t u : Int) (ok : Bool) : Prop :=
  (ok = true ∧ okB t u = true ∧ s = tagS t.toNat u.toNat) ∨ (ok = false ∧ t = 0 ∧ u = 0 ∧ ∀ t u, okB t u = true → s ≠ tagS t.toNat u.toNat)
theorem getR_one {s : ByteArray} {t u t' u' : Int} {ok ok' : Bool} (h : GetR s t u ok) (k : GetR s t' u' ok') : t = t' ∧ u = u' ∧ ok = ok' := by
  rcases h with ⟨rfl, h1, h2⟩ | ⟨rfl, h1, h2, h3⟩ <;> rcases k with ⟨rfl, k1, k2⟩ | ⟨rfl, k1, k2, k3⟩
  · obtain ⟨a, b, rfl, rfl, ha, hb⟩ := okB_low h1
    obtain ⟨c, d, rfl, rfl, hc, hd⟩ := okB_low k1
    simp only [Int.toNat_natCast] at h2 k2
    obtain ⟨e1, e2⟩ := tagS_inj (by omega) (by omega) (by omega) (by omega) (h2.symm.trans k2)
    exact ⟨by rw [e1], by rw [e2], rfl⟩
  · exact absurd h2 (k3 t u h1)
  · exact absurd k2 (h3 t' u' k1)
  · exact ⟨h1.trans k1.symm, h2.trans k2.symm, rfl⟩
theorem cut_len (l : List UInt8) : (Lib.cut l [46]).1.length ≤ l.length ∧ (Lib.cut l [46]).2.1.length ≤ l.length := by
  unfold Lib.cut
  split
  · simp only [List.length_take, List.length_drop]
    omega
  · simp
theorem bytes_ext {s : ByteArray} {l : List UInt8} (h : s.data.toList = l) : s = ⟨l.toArray⟩ := by
  apply ByteArray.ext
  rw [← h]
theorem txt_same (s s' : ByteArray) : (s.toList == s'.toList) = decide (s = s') := by
  rw [Bool.eq_iff_iff, beq_iff_eq, decide_eq_true_eq, ByteArray.toList_eq, ByteArray.toList_eq]
  exact ⟨fun h => (bytes_ext h).trans (bytes_ext rfl).symm, fun h => by rw [h]⟩
/-- The program's way: cut, two numbers, a valid tag. -/
theorem getR_of {s : ByteArray} {n1 n2 : Int} {ok1 ok2 : Bool} (h1 : ReadN (Lib.cut s.data.toList [46]).1 n1 ok1) (h2 : ReadN (Lib.cut s.data.toList [46]).2.1 n2 ok2) :
    (ok1 = true → ok2 = true → okB n1 n2 = true → GetR s n1 n2 true) ∧ ((ok1 && ok2 && okB n1 n2) = false → GetR s 0 0 false) := by
  rcases has_dot s.data.toList with hd | ⟨a, r, ha, he⟩
  · rw [cut_no hd] at h1 h2
    have hno : ∀ t u, okB t u = true → s ≠ tagS t.toNat u.toNat := fun t u _ e => hd (by rw [e, tagS_list]; simp)
    refine ⟨fun _ e _ => ?_, fun _ => .inr ⟨rfl, rfl, rfl, hno⟩⟩
    rcases h2 with ⟨_, k, _⟩ | ⟨k, _⟩
    · have : Lib.itoa n2 ≠ [] := by
        unfold Lib.itoa
        split
        · simp
        · exact digits_ne _
      exact absurd k.symm this
    · rw [e] at k; cases k
  · rw [he, cut_yes r ha] at h1 h2
    refine ⟨fun e1 e2 e3 => ?_, fun e => .inr ⟨rfl, rfl, rfl, fun t u hok hs => ?_⟩⟩
    · rcases h1 with ⟨_, k1, _⟩ | ⟨k1, _⟩
      · rcases h2 with ⟨_, k2, _⟩ | ⟨k2, _⟩
        · obtain ⟨x, y, rfl, rfl, _, _⟩ := okB_low e3
          refine .inl ⟨rfl, e3, ?_⟩
          rw [itoa_nat] at k1 k2
          simp only [Int.toNat_natCast]
          have := tagS_list x y
          rw [bytes_ext he, bytes_ext this, show a = _ from k1, show r = _ from k2]
        · rw [e2] at k2; cases k2
      · rw [e1] at k1; cases k1
    · obtain ⟨x, y, rfl, rfl, hx, hy⟩ := okB_low hok
      simp only [Int.toNat_natCast] at hs
      have h3 := he
      rw [hs, tagS_list] at h3
      obtain ⟨q1, q2⟩ := split_dot (dot_digits x) ha h3
      rcases h1 with ⟨f1, _, k1⟩ | ⟨_, _, k1⟩
      · rcases h2 with ⟨f2, _, k2⟩ | ⟨_, _, k2⟩
        · rw [← q1, atoi_digits x (by omega)] at k1
          rw [← q2, atoi_digits y (by omega)] at k2
          injection k1 with k1
          injection k2 with k2
          rw [f1, f2, ← k1, ← k2, hok] at e
          cases e
        · exact k2 y (by omega) q2.symm
      · exact k1 x (by omega) q1.symm
end Go.Proofs.YtdkpikemlpfepaaDoor
