/- Contract of the laws' function that writes a number as a text. Condition: the number is at least 1 and at most 8388000. -/
import Derived.Test.YtieechelogkeoaaStores2
import Derived.Laws.BytesString
import Derived.Laws.Concat
namespace Go.Proofs.Ytieechelogkeoaa
open Go.RowKit Go.Joins

/-- The digits of m, ahead of s. -/
def mtx : Nat → Int → ByteArray → ByteArray
  | 0, _, s => s
  | f + 1, m, s => if m ≤ 0 then s else mtx f (m / 10) (⟨#[UInt8.ofNat (48 + m % 10).toNat]⟩ ++ s)
/-- The text that tells the number k. -/
def markT (k : Int) : ByteArray := ⟨#[109]⟩ ++ mtx k.toNat k ⟨#[]⟩
theorem mtx_zero (f : Nat) (s : ByteArray) : mtx f 0 s = s := by cases f <;> rfl
theorem mtx_step {f : Nat} {m : Int} {s : ByteArray} (hm : 0 < m) (hf : m.toNat ≤ f) : ∃ f', (m / 10).toNat ≤ f' ∧ mtx f m s = mtx f' (m / 10) (⟨#[UInt8.ofNat (48 + m % 10).toNat]⟩ ++ s) := by
  match f with
  | 0 => omega
  | f' + 1 =>
    refine ⟨f', by omega, ?_⟩
    rw [mtx, if_neg (by omega)]

end Go.Proofs.Ytieechelogkeoaa
