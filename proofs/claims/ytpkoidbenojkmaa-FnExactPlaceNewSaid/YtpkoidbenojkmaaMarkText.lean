/- Contract of the laws' function that writes a number as a text. Condition: the number is at least 1 and at most 8388000. -/
import Derived.Test.YtpkoidbenojkmaaStores2
import Derived.Laws.BytesString
import Derived.Laws.Concat
namespace Go.Proofs.Ytpkoidbenojkmaa
open Go.RowKit Go.Joins

/-- The digits of m, ahead of s. -/
def mtx : Nat → Int → ByteArray → ByteArray
  | 0, _, s => s
  | f + 1, m, s => if m ≤ 0 then s else mtx f (m / 10) (⟨#[UInt8.ofNat (48 + m % 10).toNat]⟩ ++ s)
/-- The text that tells the number k. -/
def markT (k : Int) : ByteArray := ⟨#[109]⟩ ++ mtx k.toNat k ⟨#[]⟩
theorem mtx_zero (f : Nat) (s : ByteArray) : mtx f 0 s = s := by cases f <;> rfl
theorem mtx_step {f : Nat} {m : Int} {s : ByteArray} (hm : 0 < m) (hf : m.toNat ≤ f) : ∃ f', (m / 10).toNat ≤ f' ∧ mtx f m s = mtx f' (m / 10) (⟨#[UInt8.ofNat (48 + m % 10).toNat]⟩ ++ s) := by
  match f with
  | 0 => omega
  | f' + 1 =>
    refine ⟨f', by omega, ?_⟩
    rw [mtx, if_neg (by omega)]

set_option maxRecDepth 100000 in
set_option maxHeartbeats 1000000 in
theorem markText_any (k : Int) (w : World) (h1 : 1 ≤ k) (h2 : k ≤ 8388000) :
    Calls Try.prog 47 #[.int .i64 k] w fun e w' => e = .returned (.string (markT k)) ∧ Below w.heap.size w w' := by
  have h0 : ¬ k ≤ 0 := by omega
  go_enter Try.func47, Try.ntmps47
  go_wp2
  go_loopw [0, 3] (fun kk o wr => ∃ (m : Int) (s : ByteArray), 0 ≤ m ∧ (s.size : Int) + m ≤ k ∧ kk = .int .i64 m ∧ o = .string s ∧ Hid (∃ f, m.toNat ≤ f ∧ mtx k.toNat k ⟨#[]⟩ = mtx f m s) ∧ Below w.heap.size w wr) (fun kk _ _ => (intOf kk).toNat)
  case atStart => exact ⟨k, _, by omega, by simp [ByteArray.size], rfl, rfl, ⟨_, Nat.le_refl _, rfl⟩, Below.refl _ _⟩
  case round =>
    obtain ⟨m, s, hm, hmk, rfl, rfl, hE, hL⟩ := hrel
    by_cases hlt : m > 0
    · have hr0 : 0 ≤ m % 10 ∧ m % 10 < 10 := by omega
      have hsz : (s.size : Int) ≤ 8388608 := by omega
      have hone : ((ByteArray.mk #[UInt8.ofNat (48 + m % 10).toNat]).size : Int) ≤ 8388608 := by simp [ByteArray.size]
      have B0 := Blk.made wr 5 #[.int .u8 (48 + m % 10)]
      have hcv : (convert 91 9 (.slice (some ⟨wr.heap.size, 0, none⟩) 1 1)).run Try.prog (wr.alloc (.cells #[.int .u8 (48 + m % 10)] 5)) = .ok (.string ⟨#[UInt8.ofNat (48 + m % 10).toNat]⟩) (wr.alloc (.cells #[.int .u8 (48 + m % 10)] 5)) := by
        rw [run_convert_bytes_string _ _ _ 5 _ _ _ Try.underlying91 Try.underlying5 Try.underlying9, run_bytesToString _ _ 1 1 [48 + m % 10] (by go_simp)]
        rfl
      have hadd := fun W : World => run_string_add (P := Try.prog) (w := W) (ByteArray.mk #[UInt8.ofNat (48 + m % 10).toNat]) s hone hsz
      have HE : Hid (∃ f, (m / 10).toNat ≤ f ∧ mtx k.toNat k ⟨#[]⟩ = mtx f (m / 10) (⟨#[UInt8.ofNat (48 + m % 10).toNat]⟩ ++ s)) := by
        obtain ⟨f, hf, e⟩ := hE.out
        obtain ⟨f', hf', e'⟩ := mtx_step (s := s) hlt hf
        exact ⟨f', hf', e.trans e'⟩
      have H9 : Hid (0 ≤ m / 10 ∧ ((ByteArray.mk #[UInt8.ofNat (48 + m % 10).toNat] ++ s).size : Int) + m / 10 ≤ k) := by
        refine ⟨by omega, ?_⟩
        have e1 : (ByteArray.mk #[UInt8.ofNat (48 + m % 10).toNat]).size = 1 := rfl
        rw [ByteArray.size_append, e1]
        omega
      go_wp2
      exact ⟨⟨m / 10, _, H9.out.1, H9.out.2, rfl, rfl, HE, hL.alloc hL.size _⟩, by simp [intOf]; omega⟩
    · have hm0 : m = 0 := by omega
      subst hm0
      have HE : Hid (mtx k.toNat k ⟨#[]⟩ = s) := by
        obtain ⟨f, _, e⟩ := hE.out
        show mtx k.toNat k ⟨#[]⟩ = s
        rw [e, mtx_zero]
      go_wp2
      go_ret
      exact ⟨congrArg (fun x => Ending.returned (.string x)) (show _ = markT k by unfold markT; rw [HE.out]), hL⟩
end Go.Proofs.Ytpkoidbenojkmaa
