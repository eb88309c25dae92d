/- Closed facts on the whole program that each law's row asks, reckoned once: what the head of the translation says. -/
import Derived.Test.YtnaggcdhimcilaaGreatRows
import Derived.Test.YtnaggcdhimcilaaGreatProg
import Derived.JoinedOf
import Derived.WalkKit
import Derived.ProofKit
import Derived.OpenShut
import Derived.ChangeOld
import Derived.Below
import Derived.Carry
import Derived.Lib.SmallJoins
import Derived.Test.YtnaggcdhimcilaaGreatJPastOk
import Derived.Deep.Slices
import Derived.Test.YtnaggcdhimcilaaGreatJVerOk0
import Derived.Test.YtnaggcdhimcilaaGreatJChainSz
import Derived.Test.YtnaggcdhimcilaaGreatJChainRow
import Derived.Test.YtnaggcdhimcilaaGreatJLogMark
namespace Go.Proofs.YtnaggcdhimcilaaGreat

/-- The signs of the head's line. -/
def headSigns : List Char := [Char.ofNat 104, Char.ofNat 97, Char.ofNat 114, Char.ofNat 110, Char.ofNat 101, Char.ofNat 115, Char.ofNat 115, Char.ofNat 32, Char.ofNat 50, Char.ofNat 52, Char.ofNat 99, Char.ofNat 98, Char.ofNat 97, Char.ofNat 98, Char.ofNat 56, Char.ofNat 52, Char.ofNat 57, Char.ofNat 97, Char.ofNat 97, Char.ofNat 49, Char.ofNat 101, Char.ofNat 54, Char.ofNat 99, Char.ofNat 57, Char.ofNat 52, Char.ofNat 56, Char.ofNat 99, Char.ofNat 49, Char.ofNat 101, Char.ofNat 57, Char.ofNat 98, Char.ofNat 53, Char.ofNat 55, Char.ofNat 54, Char.ofNat 101, Char.ofNat 55, Char.ofNat 56, Char.ofNat 54, Char.ofNat 100, Char.ofNat 99, Char.ofNat 102, Char.ofNat 53, Char.ofNat 100, Char.ofNat 54, Char.ofNat 100, Char.ofNat 54, Char.ofNat 48, Char.ofNat 53, Char.ofNat 102, Char.ofNat 48, Char.ofNat 97, Char.ofNat 51, Char.ofNat 51, Char.ofNat 99, Char.ofNat 97, Char.ofNat 48, Char.ofNat 49, Char.ofNat 101, Char.ofNat 102, Char.ofNat 54, Char.ofNat 102, Char.ofNat 56, Char.ofNat 51, Char.ofNat 49, Char.ofNat 48, Char.ofNat 55, Char.ofNat 100, Char.ofNat 55, Char.ofNat 101, Char.ofNat 52, Char.ofNat 57, Char.ofNat 97, Char.ofNat 32, Char.ofNat 99, Char.ofNat 117, Char.ofNat 116, Char.ofNat 32, Char.ofNat 97, Char.ofNat 116, Char.ofNat 32, Char.ofNat 108, Char.ofNat 111, Char.ofNat 111, Char.ofNat 112, Char.ofNat 46, Char.ofNat 101, Char.ofNat 120, Char.ofNat 97, Char.ofNat 109, Char.ofNat 112, Char.ofNat 108, Char.ofNat 101, Char.ofNat 47, Char.ofNat 99, Char.ofNat 111, Char.ofNat 110, Char.ofNat 102, Char.ofNat 108, Char.ofNat 117, Char.ofNat 101, Char.ofNat 110, Char.ofNat 99, Char.ofNat 101, Char.ofNat 47, Char.ofNat 108, Char.ofNat 97, Char.ofNat 119, Char.ofNat 115, Char.ofNat 46, Char.ofNat 70, Char.ofNat 110, Char.ofNat 69, Char.ofNat 120, Char.ofNat 97, Char.ofNat 99, Char.ofNat 116, Char.ofNat 80, Char.ofNat 108, Char.ofNat 97, Char.ofNat 99, Char.ofNat 101, Char.ofNat 80, Char.ofNat 97, Char.ofNat 115, Char.ofNat 115, Char.ofNat 32, Char.ofNat 108, Char.ofNat 111, Char.ofNat 111, Char.ofNat 112, Char.ofNat 46, Char.ofNat 101, Char.ofNat 120, Char.ofNat 97, Char.ofNat 109, Char.ofNat 112, Char.ofNat 108, Char.ofNat 101, Char.ofNat 47, Char.ofNat 99, Char.ofNat 111, Char.ofNat 110, Char.ofNat 102, Char.ofNat 108, Char.ofNat 117, Char.ofNat 101, Char.ofNat 110, Char.ofNat 99, Char.ofNat 101, Char.ofNat 47, Char.ofNat 108, Char.ofNat 97, Char.ofNat 119, Char.ofNat 115, Char.ofNat 46, Char.ofNat 70, Char.ofNat 110, Char.ofNat 69, Char.ofNat 120, Char.ofNat 97, Char.ofNat 99, Char.ofNat 116, Char.ofNat 80, Char.ofNat 108, Char.ofNat 97, Char.ofNat 99, Char.ofNat 101, Char.ofNat 70, Char.ofNat 97, Char.ofNat 108, Char.ofNat 108, Char.ofNat 32, Char.ofNat 108, Char.ofNat 111, Char.ofNat 111, Char.ofNat 112, Char.ofNat 46, Char.ofNat 101, Char.ofNat 120, Char.ofNat 97, Char.ofNat 109, Char.ofNat 112, Char.ofNat 108, Char.ofNat 101, Char.ofNat 47, Char.ofNat 99, Char.ofNat 111, Char.ofNat 110, Char.ofNat 102, Char.ofNat 108, Char.ofNat 117, Char.ofNat 101, Char.ofNat 110, Char.ofNat 99, Char.ofNat 101, Char.ofNat 47, Char.ofNat 108, Char.ofNat 97, Char.ofNat 119, Char.ofNat 115, Char.ofNat 46, Char.ofNat 70, Char.ofNat 110, Char.ofNat 69, Char.ofNat 120, Char.ofNat 97, Char.ofNat 99, Char.ofNat 116, Char.ofNat 80, Char.ofNat 108, Char.ofNat 97, Char.ofNat 99, Char.ofNat 101, Char.ofNat 74, Char.ofNat 111, Char.ofNat 105, Char.ofNat 110]
set_option maxRecDepth 100000 in
theorem head_is : Tryz.prog.initOrder = String.ofList headSigns := by kernel_rfl
theorem head_signs : Tryz.prog.initOrder.toList = headSigns := by rw [head_is, String.toList_ofList]
set_option maxRecDepth 100000 in
theorem head_lifts : Tryz.prog.liftsFinal = false := by
  unfold Program.liftsFinal Program.headLifts
  rw [head_signs]
  kernel_rfl

/-- The names of the functions without a body. -/
def bareNames : List (List Char) := [[Char.ofNat 109, Char.ofNat 97, Char.ofNat 105, Char.ofNat 110, Char.ofNat 46, Char.ofNat 109, Char.ofNat 97, Char.ofNat 105, Char.ofNat 110], [Char.ofNat 103, Char.ofNat 111, Char.ofNat 115, Char.ofNat 101, Char.ofNat 109, Char.ofNat 46, Char.ofNat 99, Char.ofNat 117, Char.ofNat 116], [Char.ofNat 40, Char.ofNat 114, Char.ofNat 117, Char.ofNat 110, Char.ofNat 116, Char.ofNat 105, Char.ofNat 109, Char.ofNat 101, Char.ofNat 46, Char.ofNat 98, Char.ofNat 111, Char.ofNat 117, Char.ofNat 110, Char.ofNat 100, Char.ofNat 115, Char.ofNat 69, Char.ofNat 114, Char.ofNat 114, Char.ofNat 111, Char.ofNat 114, Char.ofNat 41, Char.ofNat 46, Char.ofNat 69, Char.ofNat 114, Char.ofNat 114, Char.ofNat 111, Char.ofNat 114], [Char.ofNat 40, Char.ofNat 114, Char.ofNat 117, Char.ofNat 110, Char.ofNat 116, Char.ofNat 105, Char.ofNat 109, Char.ofNat 101, Char.ofNat 46, Char.ofNat 98, Char.ofNat 111, Char.ofNat 117, Char.ofNat 110, Char.ofNat 100, Char.ofNat 115, Char.ofNat 69, Char.ofNat 114, Char.ofNat 114, Char.ofNat 111, Char.ofNat 114, Char.ofNat 41, Char.ofNat 46, Char.ofNat 82, Char.ofNat 117, Char.ofNat 110, Char.ofNat 116, Char.ofNat 105, Char.ofNat 109, Char.ofNat 101, Char.ofNat 69, Char.ofNat 114, Char.ofNat 114, Char.ofNat 111, Char.ofNat 114], [Char.ofNat 40, Char.ofNat 114, Char.ofNat 117, Char.ofNat 110, Char.ofNat 116, Char.ofNat 105, Char.ofNat 109, Char.ofNat 101, Char.ofNat 46, Char.ofNat 101, Char.ofNat 114, Char.ofNat 114, Char.ofNat 111, Char.ofNat 114, Char.ofNat 83, Char.ofNat 116, Char.ofNat 114, Char.ofNat 105, Char.ofNat 110, Char.ofNat 103, Char.ofNat 41, Char.ofNat 46, Char.ofNat 69, Char.ofNat 114, Char.ofNat 114, Char.ofNat 111, Char.ofNat 114], [Char.ofNat 40, Char.ofNat 114, Char.ofNat 117, Char.ofNat 110, Char.ofNat 116, Char.ofNat 105, Char.ofNat 109, Char.ofNat 101, Char.ofNat 46, Char.ofNat 101, Char.ofNat 114, Char.ofNat 114, Char.ofNat 111, Char.ofNat 114, Char.ofNat 83, Char.ofNat 116, Char.ofNat 114, Char.ofNat 105, Char.ofNat 110, Char.ofNat 103, Char.ofNat 41, Char.ofNat 46, Char.ofNat 82, Char.ofNat 117, Char.ofNat 110, Char.ofNat 116, Char.ofNat 105, Char.ofNat 109, Char.ofNat 101, Char.ofNat 69, Char.ofNat 114, Char.ofNat 114, Char.ofNat 111, Char.ofNat 114], [Char.ofNat 40, Char.ofNat 114, Char.ofNat 117, Char.ofNat 110, Char.ofNat 116, Char.ofNat 105, Char.ofNat 109, Char.ofNat 101, Char.ofNat 46, Char.ofNat 112, Char.ofNat 108, Char.ofNat 97, Char.ofNat 105, Char.ofNat 110, Char.ofNat 69, Char.ofNat 114, Char.ofNat 114, Char.ofNat 111, Char.ofNat 114, Char.ofNat 41, Char.ofNat 46, Char.ofNat 69, Char.ofNat 114, Char.ofNat 114, Char.ofNat 111, Char.ofNat 114], [Char.ofNat 40, Char.ofNat 114, Char.ofNat 117, Char.ofNat 110, Char.ofNat 116, Char.ofNat 105, Char.ofNat 109, Char.ofNat 101, Char.ofNat 46, Char.ofNat 112, Char.ofNat 108, Char.ofNat 97, Char.ofNat 105, Char.ofNat 110, Char.ofNat 69, Char.ofNat 114, Char.ofNat 114, Char.ofNat 111, Char.ofNat 114, Char.ofNat 41, Char.ofNat 46, Char.ofNat 82, Char.ofNat 117, Char.ofNat 110, Char.ofNat 116, Char.ofNat 105, Char.ofNat 109, Char.ofNat 101, Char.ofNat 69, Char.ofNat 114, Char.ofNat 114, Char.ofNat 111, Char.ofNat 114], [Char.ofNat 40, Char.ofNat 114, Char.ofNat 117, Char.ofNat 110, Char.ofNat 116, Char.ofNat 105, Char.ofNat 109, Char.ofNat 101, Char.ofNat 46, Char.ofNat 101, Char.ofNat 114, Char.ofNat 114, Char.ofNat 111, Char.ofNat 114, Char.ofNat 65, Char.ofNat 100, Char.ofNat 100, Char.ofNat 114, Char.ofNat 101, Char.ofNat 115, Char.ofNat 115, Char.ofNat 83, Char.ofNat 116, Char.ofNat 114, Char.ofNat 105, Char.ofNat 110, Char.ofNat 103, Char.ofNat 41, Char.ofNat 46, Char.ofNat 69, Char.ofNat 114, Char.ofNat 114, Char.ofNat 111, Char.ofNat 114], [Char.ofNat 40, Char.ofNat 114, Char.ofNat 117, Char.ofNat 110, Char.ofNat 116, Char.ofNat 105, Char.ofNat 109, Char.ofNat 101, Char.ofNat 46, Char.ofNat 101, Char.ofNat 114, Char.ofNat 114, Char.ofNat 111, Char.ofNat 114, Char.ofNat 65, Char.ofNat 100, Char.ofNat 100, Char.ofNat 114, Char.ofNat 101, Char.ofNat 115, Char.ofNat 115, Char.ofNat 83, Char.ofNat 116, Char.ofNat 114, Char.ofNat 105, Char.ofNat 110, Char.ofNat 103, Char.ofNat 41, Char.ofNat 46, Char.ofNat 82, Char.ofNat 117, Char.ofNat 110, Char.ofNat 116, Char.ofNat 105, Char.ofNat 109, Char.ofNat 101, Char.ofNat 69, Char.ofNat 114, Char.ofNat 114, Char.ofNat 111, Char.ofNat 114], [Char.ofNat 40, Char.ofNat 42, Char.ofNat 114, Char.ofNat 117, Char.ofNat 110, Char.ofNat 116, Char.ofNat 105, Char.ofNat 109, Char.ofNat 101, Char.ofNat 46, Char.ofNat 84, Char.ofNat 121, Char.ofNat 112, Char.ofNat 101, Char.ofNat 65, Char.ofNat 115, Char.ofNat 115, Char.ofNat 101, Char.ofNat 114, Char.ofNat 116, Char.ofNat 105, Char.ofNat 111, Char.ofNat 110, Char.ofNat 69, Char.ofNat 114, Char.ofNat 114, Char.ofNat 111, Char.ofNat 114, Char.ofNat 41, Char.ofNat 46, Char.ofNat 69, Char.ofNat 114, Char.ofNat 114, Char.ofNat 111, Char.ofNat 114], [Char.ofNat 40, Char.ofNat 42, Char.ofNat 114, Char.ofNat 117, Char.ofNat 110, Char.ofNat 116, Char.ofNat 105, Char.ofNat 109, Char.ofNat 101, Char.ofNat 46, Char.ofNat 84, Char.ofNat 121, Char.ofNat 112, Char.ofNat 101, Char.ofNat 65, Char.ofNat 115, Char.ofNat 115, Char.ofNat 101, Char.ofNat 114, Char.ofNat 116, Char.ofNat 105, Char.ofNat 111, Char.ofNat 110, Char.ofNat 69, Char.ofNat 114, Char.ofNat 114, Char.ofNat 111, Char.ofNat 114, Char.ofNat 41, Char.ofNat 46, Char.ofNat 82, Char.ofNat 117, Char.ofNat 110, Char.ofNat 116, Char.ofNat 105, Char.ofNat 109, Char.ofNat 101, Char.ofNat 69, Char.ofNat 114, Char.ofNat 114, Char.ofNat 111, Char.ofNat 114], [Char.ofNat 40, Char.ofNat 42, Char.ofNat 114, Char.ofNat 117, Char.ofNat 110, Char.ofNat 116, Char.ofNat 105, Char.ofNat 109, Char.ofNat 101, Char.ofNat 46, Char.ofNat 80, Char.ofNat 97, Char.ofNat 110, Char.ofNat 105, Char.ofNat 99, Char.ofNat 78, Char.ofNat 105, Char.ofNat 108, Char.ofNat 69, Char.ofNat 114, Char.ofNat 114, Char.ofNat 111, Char.ofNat 114, Char.ofNat 41, Char.ofNat 46, Char.ofNat 69, Char.ofNat 114, Char.ofNat 114, Char.ofNat 111, Char.ofNat 114], [Char.ofNat 40, Char.ofNat 42, Char.ofNat 114, Char.ofNat 117, Char.ofNat 110, Char.ofNat 116, Char.ofNat 105, Char.ofNat 109, Char.ofNat 101, Char.ofNat 46, Char.ofNat 80, Char.ofNat 97, Char.ofNat 110, Char.ofNat 105, Char.ofNat 99, Char.ofNat 78, Char.ofNat 105, Char.ofNat 108, Char.ofNat 69, Char.ofNat 114, Char.ofNat 114, Char.ofNat 111, Char.ofNat 114, Char.ofNat 41, Char.ofNat 46, Char.ofNat 82, Char.ofNat 117, Char.ofNat 110, Char.ofNat 116, Char.ofNat 105, Char.ofNat 109, Char.ofNat 101, Char.ofNat 69, Char.ofNat 114, Char.ofNat 114, Char.ofNat 111, Char.ofNat 114], [Char.ofNat 40, Char.ofNat 42, Char.ofNat 105, Char.ofNat 110, Char.ofNat 116, Char.ofNat 101, Char.ofNat 114, Char.ofNat 110, Char.ofNat 97, Char.ofNat 108, Char.ofNat 47, Char.ofNat 97, Char.ofNat 98, Char.ofNat 105, Char.ofNat 46, Char.ofNat 84, Char.ofNat 121, Char.ofNat 112, Char.ofNat 101, Char.ofNat 41, Char.ofNat 46, Char.ofNat 65, Char.ofNat 108, Char.ofNat 105, Char.ofNat 103, Char.ofNat 110], [Char.ofNat 40, Char.ofNat 105, Char.ofNat 110, Char.ofNat 116, Char.ofNat 101, Char.ofNat 114, Char.ofNat 110, Char.ofNat 97, Char.ofNat 108, Char.ofNat 47, Char.ofNat 114, Char.ofNat 117, Char.ofNat 110, Char.ofNat 116, Char.ofNat 105, Char.ofNat 109, Char.ofNat 101, Char.ofNat 47, Char.ofNat 109, Char.ofNat 97, Char.ofNat 112, Char.ofNat 115, Char.ofNat 46, Char.ofNat 117, Char.ofNat 110, Char.ofNat 104, Char.ofNat 97, Char.ofNat 115, Char.ofNat 104, Char.ofNat 97, Char.ofNat 98, Char.ofNat 108, Char.ofNat 101, Char.ofNat 84, Char.ofNat 121, Char.ofNat 112, Char.ofNat 101, Char.ofNat 69, Char.ofNat 114, Char.ofNat 114, Char.ofNat 111, Char.ofNat 114, Char.ofNat 41, Char.ofNat 46, Char.ofNat 69, Char.ofNat 114, Char.ofNat 114, Char.ofNat 111, Char.ofNat 114], [Char.ofNat 40, Char.ofNat 105, Char.ofNat 110, Char.ofNat 116, Char.ofNat 101, Char.ofNat 114, Char.ofNat 110, Char.ofNat 97, Char.ofNat 108, Char.ofNat 47, Char.ofNat 114, Char.ofNat 117, Char.ofNat 110, Char.ofNat 116, Char.ofNat 105, Char.ofNat 109, Char.ofNat 101, Char.ofNat 47, Char.ofNat 109, Char.ofNat 97, Char.ofNat 112, Char.ofNat 115, Char.ofNat 46, Char.ofNat 117, Char.ofNat 110, Char.ofNat 104, Char.ofNat 97, Char.ofNat 115, Char.ofNat 104, Char.ofNat 97, Char.ofNat 98, Char.ofNat 108, Char.ofNat 101, Char.ofNat 84, Char.ofNat 121, Char.ofNat 112, Char.ofNat 101, Char.ofNat 69, Char.ofNat 114, Char.ofNat 114, Char.ofNat 111, Char.ofNat 114, Char.ofNat 41, Char.ofNat 46, Char.ofNat 82, Char.ofNat 117, Char.ofNat 110, Char.ofNat 116, Char.ofNat 105, Char.ofNat 109, Char.ofNat 101, Char.ofNat 69, Char.ofNat 114, Char.ofNat 114, Char.ofNat 111, Char.ofNat 114], [Char.ofNat 40, Char.ofNat 108, Char.ofNat 111, Char.ofNat 111, Char.ofNat 112, Char.ofNat 46, Char.ofNat 101, Char.ofNat 120, Char.ofNat 97, Char.ofNat 109, Char.ofNat 112, Char.ofNat 108, Char.ofNat 101, Char.ofNat 47, Char.ofNat 99, Char.ofNat 111, Char.ofNat 110, Char.ofNat 102, Char.ofNat 108, Char.ofNat 117, Char.ofNat 101, Char.ofNat 110, Char.ofNat 99, Char.ofNat 101, Char.ofNat 47, Char.ofNat 105, Char.ofNat 109, Char.ofNat 112, Char.ofNat 108, Char.ofNat 46, Char.ofNat 80, Char.ofNat 108, Char.ofNat 97, Char.ofNat 99, Char.ofNat 101, Char.ofNat 41, Char.ofNat 46, Char.ofNat 116, Char.ofNat 111, Char.ofNat 108, Char.ofNat 100], [Char.ofNat 40, Char.ofNat 108, Char.ofNat 111, Char.ofNat 111, Char.ofNat 112, Char.ofNat 46, Char.ofNat 101, Char.ofNat 120, Char.ofNat 97, Char.ofNat 109, Char.ofNat 112, Char.ofNat 108, Char.ofNat 101, Char.ofNat 47, Char.ofNat 99, Char.ofNat 111, Char.ofNat 110, Char.ofNat 102, Char.ofNat 108, Char.ofNat 117, Char.ofNat 101, Char.ofNat 110, Char.ofNat 99, Char.ofNat 101, Char.ofNat 47, Char.ofNat 105, Char.ofNat 109, Char.ofNat 112, Char.ofNat 108, Char.ofNat 46, Char.ofNat 116, Char.ofNat 111, Char.ofNat 109, Char.ofNat 98, Char.ofNat 115, Char.ofNat 116, Char.ofNat 111, Char.ofNat 110, Char.ofNat 101, Char.ofNat 41, Char.ofNat 46, Char.ofNat 105, Char.ofNat 110, Char.ofNat 116, Char.ofNat 111], [Char.ofNat 40, Char.ofNat 108, Char.ofNat 111, Char.ofNat 111, Char.ofNat 112, Char.ofNat 46, Char.ofNat 101, Char.ofNat 120, Char.ofNat 97, Char.ofNat 109, Char.ofNat 112, Char.ofNat 108, Char.ofNat 101, Char.ofNat 47, Char.ofNat 99, Char.ofNat 111, Char.ofNat 110, Char.ofNat 102, Char.ofNat 108, Char.ofNat 117, Char.ofNat 101, Char.ofNat 110, Char.ofNat 99, Char.ofNat 101, Char.ofNat 47, Char.ofNat 105, Char.ofNat 109, Char.ofNat 112, Char.ofNat 108, Char.ofNat 46, Char.ofNat 116, Char.ofNat 111, Char.ofNat 109, Char.ofNat 98, Char.ofNat 115, Char.ofNat 116, Char.ofNat 111, Char.ofNat 110, Char.ofNat 101, Char.ofNat 41, Char.ofNat 46, Char.ofNat 114, Char.ofNat 101, Char.ofNat 115, Char.ofNat 116], [Char.ofNat 40, Char.ofNat 108, Char.ofNat 111, Char.ofNat 111, Char.ofNat 112, Char.ofNat 46, Char.ofNat 101, Char.ofNat 120, Char.ofNat 97, Char.ofNat 109, Char.ofNat 112, Char.ofNat 108, Char.ofNat 101, Char.ofNat 47, Char.ofNat 99, Char.ofNat 111, Char.ofNat 110, Char.ofNat 102, Char.ofNat 108, Char.ofNat 117, Char.ofNat 101, Char.ofNat 110, Char.ofNat 99, Char.ofNat 101, Char.ofNat 47, Char.ofNat 105, Char.ofNat 109, Char.ofNat 112, Char.ofNat 108, Char.ofNat 46, Char.ofNat 118, Char.ofNat 97, Char.ofNat 108, Char.ofNat 117, Char.ofNat 101, Char.ofNat 41, Char.ofNat 46, Char.ofNat 105, Char.ofNat 110, Char.ofNat 116, Char.ofNat 111], [Char.ofNat 40, Char.ofNat 108, Char.ofNat 111, Char.ofNat 111, Char.ofNat 112, Char.ofNat 46, Char.ofNat 101, Char.ofNat 120, Char.ofNat 97, Char.ofNat 109, Char.ofNat 112, Char.ofNat 108, Char.ofNat 101, Char.ofNat 47, Char.ofNat 99, Char.ofNat 111, Char.ofNat 110, Char.ofNat 102, Char.ofNat 108, Char.ofNat 117, Char.ofNat 101, Char.ofNat 110, Char.ofNat 99, Char.ofNat 101, Char.ofNat 47, Char.ofNat 105, Char.ofNat 109, Char.ofNat 112, Char.ofNat 108, Char.ofNat 46, Char.ofNat 118, Char.ofNat 97, Char.ofNat 108, Char.ofNat 117, Char.ofNat 101, Char.ofNat 41, Char.ofNat 46, Char.ofNat 114, Char.ofNat 101, Char.ofNat 115, Char.ofNat 116], [Char.ofNat 40, Char.ofNat 105, Char.ofNat 110, Char.ofNat 116, Char.ofNat 101, Char.ofNat 114, Char.ofNat 110, Char.ofNat 97, Char.ofNat 108, Char.ofNat 47, Char.ofNat 97, Char.ofNat 98, Char.ofNat 105, Char.ofNat 46, Char.ofNat 75, Char.ofNat 105, Char.ofNat 110, Char.ofNat 100, Char.ofNat 41, Char.ofNat 46, Char.ofNat 83, Char.ofNat 116, Char.ofNat 114, Char.ofNat 105, Char.ofNat 110, Char.ofNat 103]]
set_option maxRecDepth 100000 in
theorem bare_is : (Tryz.prog.funcs.toList.filter fun fn => fn.body.isNone).map (·.name) = bareNames.map String.ofList := by kernel_rfl
theorem nameBytes_ofList (l : List Char) : nameBytes (String.ofList l) = l.flatMap String.utf8EncodeChar := by
  simp [nameBytes, List.utf8Encode, List.data_toByteArray]
theorem any_bare (l : List Func) (g : String → Bool) : (l.any fun fn => fn.body.isNone && g fn.name) = ((l.filter fun fn => fn.body.isNone).map (·.name)).any g := by
  rw [List.any_map, List.any_filter]
  rfl
/-- Whether a name opens so. -/
def opensSo (p : List UInt8) (l : List Char) : Bool := opensWith p (l.flatMap String.utf8EncodeChar)
theorem opens_ofList (p : List UInt8) (l : List Char) : opensWith p (nameBytes (String.ofList l)) = opensSo p l := by rw [nameBytes_ofList]; rfl
theorem lit_reflect : nameBytes "reflect." = [114, 101, 102, 108, 101, 99, 116, 46] := by kernel_rfl
theorem lit_reflect1 : nameBytes "(reflect." = [40, 114, 101, 102, 108, 101, 99, 116, 46] := by kernel_rfl
theorem lit_reflect2 : nameBytes "(*reflect." = [40, 42, 114, 101, 102, 108, 101, 99, 116, 46] := by kernel_rfl
theorem lit_door : nameBytes "var's door: " = [118, 97, 114, 39, 115, 32, 100, 111, 111, 114, 58, 32] := by kernel_rfl
set_option maxRecDepth 100000 in
theorem bears_not : Tryz.prog.bearsReflect = false := by
  unfold Program.bearsReflect
  rw [any_bare _ (fun s => opensWith (nameBytes "reflect.") (nameBytes s) || opensWith (nameBytes "(reflect.") (nameBytes s) || opensWith (nameBytes "(*reflect.") (nameBytes s)), bare_is, List.any_map]
  simp only [Function.comp_def, opens_ofList, lit_reflect, lit_reflect1, lit_reflect2]
  kernel_rfl
set_option maxRecDepth 100000 in
theorem doors_not : Tryz.prog.doorRows = [] := by
  unfold Program.doorRows
  rw [List.map_eq_nil_iff, List.filter_eq_nil_iff]
  have h : (Tryz.prog.funcs.toList.any fun fn => fn.body.isNone && opensWith (nameBytes "var's door: ") (nameBytes fn.name)) = false := by
    rw [any_bare _ (fun s => opensWith (nameBytes "var's door: ") (nameBytes s)), bare_is, List.any_map]
    simp only [Function.comp_def, opens_ofList, lit_door]
    kernel_rfl
  rw [List.any_eq_false] at h
  exact h
/-- What the doors ask, where there is none. -/
def doorless (l : List String) : Bool := (l.contains "ownunsafe" || !l.contains "libbeside") && (l.contains "libbeside" || !l.contains "ownbeside")
theorem door_fits : Tryz.prog.doorFits = doorless := by
  funext l
  unfold Program.doorFits doorless
  rw [doors_not]
  rfl
set_option maxRecDepth 100000 in
theorem lays_not : Tryz.prog.laysLater = false := by kernel_rfl
/-- The head's words behind the first. -/
def headRest : List (List Char) := (behindMainWord (wordsSigns headSigns)).tail
set_option maxRecDepth 100000 in
theorem head_words : behindMainWord (wordsSigns headSigns) = "cut".toList :: headRest := by kernel_rfl
set_option maxRecDepth 100000 in
theorem head_strip : stripLifts liftWords ("cut".toList :: headRest) = ([], "cut".toList :: headRest) := by kernel_rfl
theorem enter_of {P : Program} {l : List Char} {rest : List (List Char)} (h : P.initOrder.toList = l) (hw : behindMainWord (wordsSigns l) = "cut".toList :: rest)
    (hs : stripLifts liftWords ("cut".toList :: rest) = ([], "cut".toList :: rest)) (h1 : P.laysLater = false) (h2 : P.bearsReflect = false) (h3 : P.doorFits [] = true) : P.mayEnter = true := by
  unfold Program.mayEnter
  rw [h, hw]
  simp only [hs, h1, h2, h3]
  simp
theorem head_enter : Tryz.prog.mayEnter = true := enter_of head_signs head_words head_strip lays_not bears_not (by rw [door_fits]; rfl)
theorem make_of {P : Program} {l : List Char} {rest : List (List Char)} (h : P.initOrder.toList = l) (hw : behindMainWord (wordsSigns l) = "cut".toList :: rest) : P.make = some .cut := by
  unfold Program.make
  rw [h, hw]
  rfl
theorem head_make : Tryz.prog.make = some .cut := make_of head_signs head_words
set_option maxRecDepth 100000 in
theorem all_laid : laidOutB Tryz.prog = true := by kernel_rfl
set_option maxRecDepth 100000 in
theorem all_rowed : mapsRowed Tryz.prog = true := by kernel_rfl
set_option maxRecDepth 100000 in
theorem all_stops : Tryz.prog.stops = [] := by kernel_rfl
set_option maxRecDepth 100000 in
theorem all_knobs : Tryz.prog.stopKnobs = [] := by kernel_rfl
set_option maxRecDepth 100000 in
theorem all_heard : Tryz.prog.stopsHeard = true := by kernel_rfl
/-- A law's closed facts, with those of the whole program struck: what is left of them. -/
def factsLeft (P : Program) (f : FuncId) (fn : Func) (s : ChangeSpec) (c : OpenClaim) : Bool :=
  c.wf (OpenSpec.ofChange s) && true && true &&
  fn.params.all (P.readableRec ·) && namedTie P c.named s.vars &&
  (c.stops == []) && (([] : List String) == []) && (c.knobs == []) && (([] : List String) == []) &&
  (c.inPlace == P.inPlace f) && (c.unfollowed == P.unfollowed f) && (c.recurses == P.recurses f) && (c.named == P.varsNamed f) &&
  (c.maps == (fn.params.toList ++ s.plain.varTypes P).any (P.mapsRec ·)) && (c.ifaces == (fn.params.toList ++ s.plain.varTypes P).any (P.ifacesRec ·)) && (c.mapsOut == P.mapsAmong fn.resultTypes.toList) &&
  (c.loops == (fn.params.toList ++ s.plain.varTypes P).any (P.loopsFrom ·)) && (c.wideKeys == (fn.params.toList ++ s.plain.varTypes P ++ fn.resultTypes.toList).any (P.wideKeysFrom ·)) &&
  s.vars.all (P.varReadable ·) && fn.resultTypes.all (fun t => P.readableRec t && decide (t < P.types.size)) && (c.ifacesOut == fn.resultTypes.toList.any (P.ifacesRec ·)) && (c.loopsOut == fn.resultTypes.toList.any (P.loopsFrom ·)) && (c.plainKeys == P.plainKeys) && c.shortTexts.isNone && true && true && (c.lifted == false) && (some Make.cut == some c.make) && (c.kinds == (if c.domain.isEmpty then [] else fn.params.toList.map fun t => match P.underlying t with | some (.int k) => some k | _ => none)) && (c.pinned == c.pinnedBy) &&
  (c.veiled == (fn.params.toList ++ s.plain.varTypes P ++ fn.resultTypes.toList).any (P.veiledRec ·)) && c.veiledFits P fn.params.toList (fn.params.toList ++ s.plain.varTypes P ++ fn.resultTypes.toList)
set_option maxRecDepth 100000 in
theorem joined_any {P : Program} (hP : P.mayEnter = true) (hQ : P.liftsFinal = false) (hM : P.make = some .cut) (h1 : laidOutB P = true) (h2 : mapsRowed P = true) (h3 : P.stops = []) (h4 : P.stopKnobs = []) (h5 : P.stopsHeard = true)
    {f : FuncId} {fn : Func} {s : ChangeSpec} {c : OpenClaim} (h : factsLeft P f fn s c = true) : joinedFacts P f fn s c = true := by
  unfold joinedFacts
  rw [hP, hQ, hM, h1, h2, h3, h4, h5]
  exact h
theorem joined_of {f : FuncId} {fn : Func} {s : ChangeSpec} {c : OpenClaim} (h : factsLeft Tryz.prog f fn s c = true) : joinedFacts Tryz.prog f fn s c = true :=
  joined_any head_enter head_lifts head_make all_laid all_rowed all_stops all_knobs all_heard h
end Go.Proofs.YtnaggcdhimcilaaGreat
/- How a law's contract becomes the law's row: the program's closed facts, and that what was read before a call reads the same behind it where nothing old has turned. -/
namespace Go.Proofs.YtnaggcdhimcilaaGreat
open Go.ChangeShapes Go.WideShapes Go.ChangeAt Go.RowKit Go.Joins

set_option maxRecDepth 100000 in
theorem own : ownKnob Tryz.prog.godebug = none := by kernel_rfl
set_option maxRecDepth 100000 in
theorem laidOut : laidOutB Tryz.prog = true := all_laid

set_option maxRecDepth 100000 in
/-- All arguments read behind the call as they did before it, if below the old heap nothing has turned. -/
theorem stay_all {H : Type} {enc : TypeId × Value → H} {W W' : World} (hb : Below W.heap.size W W') :
    ∀ {ts : List TypeId} {vs : List Value} {ds : List (DataW H)} {ps : List MemPlace},
      (∀ t ∈ ts, Tryz.prog.readableRec t = true ∧ t < Tryz.prog.types.size) → DataW.TrodAll enc Tryz.prog W 0 (fun _ => true) true ts vs ds ps →
      DataW.TrodAll enc Tryz.prog W' 0 (fun b => decide (b < W.heap.size)) true ts vs ds ps
  | [], vs, ds, ps, _, h => by
    obtain ⟨rfl, rfl, rfl⟩ := trodAll_nil h
    exact trodAll_mk0
  | t :: ts, vs, ds, ps, hr, h => by
    obtain ⟨v, vs', d, ds', p, q, rfl, rfl, rfl, h0, hs⟩ := trodAll_cons h
    have lt0 : ∀ x ∈ p, x.block < W.heap.size := by obtain ⟨m, hm⟩ := h0; exact DataW.trod_lt m _ _ _ hm
    exact trodAll_cons_mk (Below.trod laidOut (hr t (by simp)).1 (hr t (by simp)).2 h0 hb lt0) (stay_all hb (fun t' ht' => hr t' (by simp [ht'])) hs)

set_option maxRecDepth 100000 in
/-- Two cells of a tag that came in hold two integers. -/
theorem cells_tag {H : Type} {enc : TypeId × Value → H} {W : World} {fuel : Nat} {cs : List Value} {x : DataW H × List MemPlace}
    (h : DataW.trod enc Tryz.prog W 0 (fun _ => true) true fuel 78 cs = some x) : ∃ t u : Int, cs = [.int .i64 t, .int .i64 u] := by
  obtain ⟨ys, n, _, _, hlen, hyl, hf⟩ := DataW.trod_struct Tryz.underlying78 h
  have hc : Tryz.prog.cellsOf 78 = 2 := by kernel_rfl
  have hi : Tryz.prog.cellsOf 3 = 1 := by kernel_rfl
  rw [hc] at hlen
  match cs, hlen with
  | [c0, c1], _ =>
    have h0 := hf 0 _ rfl
    have h1 := hf 1 _ rfl
    simp [hi] at h0 h1
    match ys, hyl with
    | [y0, y1], _ =>
      simp at h0 h1
      obtain ⟨a, e0, _, _⟩ := DataW.trod_int Tryz.underlying3 h0
      obtain ⟨b, e1, _, _⟩ := DataW.trod_int Tryz.underlying3 h1
      simp at e0 e1
      subst e0 e1
      exact ⟨a, b, rfl⟩
set_option maxRecDepth 100000 in
/-- A slice of tags that came in: each can be read. -/
theorem read_tags {H : Type} {enc : TypeId × Value → H} {W : World} {fuel : Nat} {cs : List Value} {x : DataW H × List MemPlace}
    (h : DataW.trod enc Tryz.prog W 0 (fun _ => true) true fuel 79 cs = some x) :
    ∃ (a : Option Addr) (cap : Nat) (ts : List (Int × Int)), cs = [.slice a ts.length cap] ∧ Tg W W.heap.size a ts ∧ ts.length ≤ 9223372036854775807 := by
  rcases Go.Deep.open_slice Tryz.underlying79 h with ⟨h0, _⟩ | ⟨a, len, cap, m, n, D, Pl, hcs, _, hl, hm, hmm, _, hi⟩
  · exact ⟨none, 0, [], h0, .inl rfl, by simp⟩
  · have hc : Tryz.prog.cellsOf 78 = 2 := by kernel_rfl
    simp only [if_true] at hmm
    subst hmm
    have hall : ∀ i : Nat, ∃ y : Int × Int, i < len → W.cell? (a.add (i * 2)) = some (.int .i64 y.1) ∧ W.cell? ((a.add (i * 2)).add 1) = some (.int .i64 y.2) := by
      intro i
      by_cases hlt : i < len
      · obtain ⟨cs', hcells, ht⟩ := hi i (by omega)
        obtain ⟨t, u, rfl⟩ := cells_tag ht
        rw [hc] at hcells
        obtain ⟨_, _, hat⟩ := World.cells?_some hcells
        refine ⟨(t, u), fun _ => ⟨?_, ?_⟩⟩
        · have := hat 0 (by omega)
          simpa [Addr.add] using this
        · have := hat 1 (by omega)
          simpa using this
      · exact ⟨(0, 0), fun h => absurd h hlt⟩
    obtain ⟨f, hf⟩ := Classical.axiomOfChoice hall
    refine ⟨some a, m, (List.range len).map f, by simpa using hcs, ?_, by simp; unfold maxLen at hm; omega⟩
    by_cases h0 : len = 0
    · subst h0; exact .inl (by simp)
    · obtain ⟨b, off, spot⟩ := a
      have hc0 := (hf 0 (by omega)).1
      have hspot : spot = none := by simpa [Addr.add] using World.cell?_spot hc0
      subst hspot
      refine .inr ⟨b, off, rfl, ?_, fun i y hy => ?_⟩
      · apply Classical.byContradiction
        intro hn
        have : W.heap[b]? = none := Array.getElem?_eq_none (by omega)
        simp [Addr.add, World.cell?, this] at hc0
      · simp only [List.getElem?_map, Option.map_eq_some_iff] at hy
        obtain ⟨j, hj, rfl⟩ := hy
        have hji := List.getElem?_eq_some_iff.1 hj
        obtain ⟨hlt, e⟩ := hji
        simp at hlt e
        subst e
        have h1 := hf i hlt
        have e1 : (⟨b, off, none⟩ : Addr).add (i * 2) = ⟨b, off + i * 2, none⟩ := by
          unfold Addr.add
          by_cases hi0 : i * 2 = 0
          · simp [hi0]
          · simp [hi0]
        rw [e1] at h1
        exact ⟨h1.1, by simpa [Addr.add] using h1.2⟩
end Go.Proofs.YtnaggcdhimcilaaGreat
/- Versions that came in: each can be read. -/
namespace Go.Proofs.YtnaggcdhimcilaaGreat
open Go.ChangeShapes Go.WideShapes Go.ChangeAt Go.RowKit Go.Joins

set_option maxRecDepth 100000 in
/-- The cell of a vector of tags that came in. -/
theorem cells_past {H : Type} {enc : TypeId × Value → H} {W : World} {fuel : Nat} {cs : List Value} {x : DataW H × List MemPlace}
    (h : DataW.trod enc Tryz.prog W 0 (fun _ => true) true fuel 81 cs = some x) :
    ∃ (a : Option Addr) (cap : Nat) (ts : List (Int × Int)), cs = [.slice a ts.length cap] ∧ Tg W W.heap.size a ts ∧ ts.length ≤ 9223372036854775807 := by
  obtain ⟨xs, n, _, _, hsz, hlen, hg⟩ := DataW.trod_struct Tryz.underlying81 h
  have hc : Tryz.prog.cellsOf 81 = 1 := by kernel_rfl
  have hk : Tryz.prog.cellsOf 79 = 1 := by kernel_rfl
  rw [hc] at hsz
  match cs, hsz with
  | [c0], _ =>
    have h0 := hg 0 _ rfl
    simp [hk] at h0
    match xs, hlen with
    | [y0], _ =>
      simp at h0
      obtain ⟨a, cap, ts, e, ht, hl⟩ := read_tags h0
      exact ⟨a, cap, ts, e, ht, hl⟩
set_option maxRecDepth 100000 in
/-- The cells of a version that came in. -/
theorem cells_ver {H : Type} {enc : TypeId × Value → H} {W : World} {fuel : Nat} {cs : List Value} {x : DataW H × List MemPlace}
    (h : DataW.trod enc Tryz.prog W 0 (fun _ => true) true fuel 83 cs = some x) :
    ∃ (k t u : Int) (a : Option Addr) (cap : Nat) (ts : List (Int × Int)) (s : ByteArray) (g : Bool), cs = [.int .i64 k, .int .i64 t, .int .i64 u, .slice a ts.length cap, .string s, .bool g] ∧ Tg W W.heap.size a ts ∧ ts.length ≤ 9223372036854775807 ∧ s.size ≤ maxLen := by
  obtain ⟨xs, n, _, _, hsz, hlen, hg⟩ := DataW.trod_struct Tryz.underlying83 h
  have hc : Tryz.prog.cellsOf 83 = 6 := by kernel_rfl
  have k1 : Tryz.prog.cellsOf 3 = 1 := by kernel_rfl
  have k2 : Tryz.prog.cellsOf 78 = 2 := by kernel_rfl
  have k3 : Tryz.prog.cellsOf 81 = 1 := by kernel_rfl
  have k4 : Tryz.prog.cellsOf 9 = 1 := by kernel_rfl
  have k5 : Tryz.prog.cellsOf 4 = 1 := by kernel_rfl
  rw [hc] at hsz
  match cs, hsz with
  | [c0, c1, c2, c3, c4, c5], _ =>
    have h0 := hg 0 _ rfl
    have h1 := hg 1 _ rfl
    have h2 := hg 2 _ rfl
    have h3 := hg 3 _ rfl
    have h4 := hg 4 _ rfl
    simp [k1, k2, k3, k4, k5] at h0 h1 h2 h3 h4
    match xs, hlen with
    | [y0, y1, y2, y3, y4], _ =>
      simp at h0 h1 h2 h3 h4
      obtain ⟨k, e0, _, _⟩ := DataW.trod_int Tryz.underlying3 h0
      obtain ⟨t, u, e1⟩ := cells_tag h1
      obtain ⟨a, cap, ts, e2, ht, hl⟩ := cells_past h2
      obtain ⟨s, e3, _, hs⟩ := DataW.trod_string Tryz.underlying9 h3
      obtain ⟨g, e4, _⟩ := DataW.trod_bool Tryz.underlying4 h4
      simp at e0 e1 e2 e3 e4
      obtain ⟨e1, e1'⟩ := e1
      subst e0 e1 e1' e2 e3 e4
      exact ⟨k, t, u, a, cap, ts, s, g, rfl, ht, hl, hs⟩
end Go.Proofs.YtnaggcdhimcilaaGreat
/- Rows of versions and stores that came in: each can be read. -/
namespace Go.Proofs.YtnaggcdhimcilaaGreat
open Go.ChangeShapes Go.WideShapes Go.ChangeAt Go.RowKit Go.Joins

set_option maxRecDepth 100000 in
/-- A slice of versions that came in: each can be read. -/
theorem read_vers {H : Type} {enc : TypeId × Value → H} {W : World} {fuel : Nat} {cs : List Value} {x : DataW H × List MemPlace}
    (h : DataW.trod enc Tryz.prog W 0 (fun _ => true) true fuel 25 cs = some x) :
    ∃ (a : Option Addr) (cap : Nat) (vs : List V), cs = [.slice a vs.length cap] ∧ Vg W W.heap.size a vs ∧ vs.length ≤ 9223372036854775807 ∧ ∀ v ∈ vs, v.ts.length ≤ 9223372036854775807 ∧ v.s.size ≤ 9223372036854775807 := by
  rcases Go.Deep.open_slice Tryz.underlying25 h with ⟨h0, _⟩ | ⟨a, len, cap, m, n, D, Pl, hcs, _, hl, hm, hmm, _, hi⟩
  · exact ⟨none, 0, [], h0, .inl rfl, by simp, by simp⟩
  · have hc : Tryz.prog.cellsOf 83 = 6 := by kernel_rfl
    simp only [if_true] at hmm
    subst hmm
    have hall : ∀ i : Nat, ∃ v : V, i < len → (W.cell? (a.add (i * 6)) = some (.int .i64 v.k) ∧ W.cell? ((a.add (i * 6)).add 1) = some (.int .i64 v.t) ∧ W.cell? ((a.add (i * 6)).add 2) = some (.int .i64 v.u) ∧ W.cell? ((a.add (i * 6)).add 3) = some (.slice v.a v.ts.length v.c) ∧ W.cell? ((a.add (i * 6)).add 4) = some (.string v.s) ∧ W.cell? ((a.add (i * 6)).add 5) = some (.bool v.g)) ∧ Tg W W.heap.size v.a v.ts ∧ v.ts.length ≤ 9223372036854775807 ∧ v.s.size ≤ 9223372036854775807 := by
      intro i
      by_cases hlt : i < len
      · obtain ⟨cs', hcells, ht⟩ := hi i (by omega)
        obtain ⟨k, t, u, va, vc, ts, s, g, rfl, hT, hl1, hl2⟩ := cells_ver ht
        rw [hc] at hcells
        obtain ⟨_, _, hat⟩ := World.cells?_some hcells
        refine ⟨⟨k, t, u, va, vc, ts, s, g⟩, fun _ => ⟨⟨?_, ?_, ?_, ?_, ?_, ?_⟩, hT, hl1, by unfold maxLen at hl2; simp only; omega⟩⟩
        · have := hat 0 (by omega)
          simpa [Addr.add] using this
        · have := hat 1 (by omega)
          simpa using this
        · have := hat 2 (by omega)
          simpa using this
        · have := hat 3 (by omega)
          simpa using this
        · have := hat 4 (by omega)
          simpa using this
        · have := hat 5 (by omega)
          simpa using this
      · exact ⟨⟨0, 0, 0, none, 0, [], ⟨#[]⟩, false⟩, fun h => absurd h hlt⟩
    obtain ⟨f, hf⟩ := Classical.axiomOfChoice hall
    refine ⟨some a, m, (List.range len).map f, by simpa using hcs, ?_, by simp; unfold maxLen at hm; omega, fun v hv => ?_⟩
    · by_cases h0 : len = 0
      · subst h0; exact .inl (by simp)
      · obtain ⟨b, off, spot⟩ := a
        have hc0 := (hf 0 (by omega)).1.1
        have hspot : spot = none := by simpa [Addr.add] using World.cell?_spot hc0
        subst hspot
        refine .inr ⟨b, off, rfl, ?_, fun i y hy => ?_⟩
        · apply Classical.byContradiction
          intro hn
          have : W.heap[b]? = none := Array.getElem?_eq_none (by omega)
          simp [Addr.add, World.cell?, this] at hc0
        · simp only [List.getElem?_map, Option.map_eq_some_iff] at hy
          obtain ⟨j, hj, rfl⟩ := hy
          have hji := List.getElem?_eq_some_iff.1 hj
          obtain ⟨hlt, e⟩ := hji
          simp at hlt e
          subst e
          have h1 := hf i hlt
          have e1 : (⟨b, off, none⟩ : Addr).add (i * 6) = ⟨b, off + i * 6, none⟩ := by
            unfold Addr.add
            by_cases hi0 : i * 6 = 0
            · simp [hi0]
            · simp [hi0]
          rw [e1] at h1
          obtain ⟨⟨q0, q1, q2, q3, q4, q5⟩, hT, _⟩ := h1
          exact ⟨⟨q0, by simpa [Addr.add] using q1, by simpa [Addr.add] using q2, by simpa [Addr.add] using q3, by simpa [Addr.add] using q4, by simpa [Addr.add] using q5⟩, hT⟩
    · simp only [List.mem_map, List.mem_range] at hv
      obtain ⟨i, hi', rfl⟩ := hv
      exact (hf i hi').2.2
end Go.Proofs.YtnaggcdhimcilaaGreat
/- Chains that came in: each node can be read. -/
namespace Go.Proofs.YtnaggcdhimcilaaGreat
open Go.ChangeShapes Go.WideShapes Go.ChangeAt Go.RowKit Go.Joins

set_option maxRecDepth 100000 in
theorem cells_store {H : Type} {enc : TypeId × Value → H} {W : World} {fuel : Nat} {cs : List Value} {x : DataW H × List MemPlace}
    (h : DataW.trod enc Tryz.prog W 0 (fun _ => true) true fuel 128 cs = some x) :
    ∃ (a : Option Addr) (cap : Nat) (vs : List V), cs = [.slice a vs.length cap] ∧ Vg W W.heap.size a vs ∧ BigV vs := by
  obtain ⟨xs, n, _, _, hlen, hyl, hg⟩ := DataW.trod_struct Tryz.underlying128 h
  have hc : Tryz.prog.cellsOf 128 = 1 := by kernel_rfl
  have hk : Tryz.prog.cellsOf 25 = 1 := by kernel_rfl
  rw [hc] at hlen
  match cs, hlen with
  | [c0], _ =>
    have h0 := hg 0 _ rfl
    simp [hk] at h0
    match xs, hyl with
    | [y0], _ =>
      simp at h0
      obtain ⟨a, cap, vs, e, hg, hl⟩ := read_vers h0
      exact ⟨a, cap, vs, e, hg, hl⟩
set_option maxRecDepth 100000 in
theorem cells_node {H : Type} {enc : TypeId × Value → H} {W : World} {fuel : Nat} {cs : List Value} {x : DataW H × List MemPlace}
    (h : DataW.trod enc Tryz.prog W 0 (fun _ => true) true fuel 130 cs = some x) :
    ∃ n : Nd, cs = [.slice n.sa n.ss.length n.sc, .slice n.wa n.ws.length n.wc] ∧ (Vg W W.heap.size n.sa n.ss ∧ Vg W W.heap.size n.wa n.ws) ∧ BigV n.ss ∧ BigV n.ws := by
  obtain ⟨ys, n, _, _, hlen, hyl, hf⟩ := DataW.trod_struct Tryz.underlying130 h
  have hc : Tryz.prog.cellsOf 130 = 2 := by kernel_rfl
  have hs : Tryz.prog.cellsOf 128 = 1 := by kernel_rfl
  have hk : Tryz.prog.cellsOf 25 = 1 := by kernel_rfl
  rw [hc] at hlen
  match cs, hlen with
  | [c0, c1], _ =>
    have h0 := hf 0 _ rfl
    have h1 := hf 1 _ rfl
    simp [hs, hk] at h0 h1
    match ys, hyl with
    | [y0, y1], _ =>
      simp at h0 h1
      obtain ⟨sa, sc, ss, e0, g0, b0⟩ := cells_store h0
      obtain ⟨wa, wc, ws, e1, g1, b1⟩ := read_vers h1
      simp at e0 e1
      exact ⟨⟨sa, sc, ss, wa, wc, ws⟩, by rw [e0, e1], ⟨g0, g1⟩, b0, b1⟩
set_option maxRecDepth 100000 in
/-- A slice of nodes that came in: each can be read. -/
theorem read_nodes {H : Type} {enc : TypeId × Value → H} {W : World} {fuel : Nat} {cs : List Value} {x : DataW H × List MemPlace}
    (h : DataW.trod enc Tryz.prog W 0 (fun _ => true) true fuel 22 cs = some x) :
    ∃ (a : Option Addr) (cap : Nat) (ns : List Nd), cs = [.slice a ns.length cap] ∧ Ng W W.heap.size a ns ∧ ns.length ≤ 9223372036854775807 ∧ BigN ns := by
  rcases Go.Deep.open_slice Tryz.underlying22 h with ⟨h0, _⟩ | ⟨a, len, cap, m, n, D, Pl, hcs, _, hl, hm, hmm, _, hi⟩
  · exact ⟨none, 0, [], h0, .inl rfl, by simp, fun n hn => by simp at hn⟩
  · have hc : Tryz.prog.cellsOf 130 = 2 := by kernel_rfl
    simp only [if_true] at hmm
    subst hmm
    have hall : ∀ i : Nat, ∃ n : Nd, i < len → (W.cell? (a.add (i * 2)) = some (.slice n.sa n.ss.length n.sc) ∧ W.cell? ((a.add (i * 2)).add 1) = some (.slice n.wa n.ws.length n.wc)) ∧ (Vg W W.heap.size n.sa n.ss ∧ Vg W W.heap.size n.wa n.ws) ∧ BigV n.ss ∧ BigV n.ws := by
      intro i
      by_cases hlt : i < len
      · obtain ⟨cs', hcells, ht⟩ := hi i (by omega)
        obtain ⟨n, rfl, hT⟩ := cells_node ht
        rw [hc] at hcells
        obtain ⟨_, _, hat⟩ := World.cells?_some hcells
        refine ⟨n, fun _ => ⟨⟨?_, ?_⟩, hT⟩⟩
        · have := hat 0 (by omega)
          simpa [Addr.add] using this
        · have := hat 1 (by omega)
          simpa using this
      · exact ⟨⟨none, 0, [], none, 0, []⟩, fun h => absurd h hlt⟩
    obtain ⟨f, hf⟩ := Classical.axiomOfChoice hall
    refine ⟨some a, m, (List.range len).map f, by simpa using hcs, ?_, by simp; unfold maxLen at hm; omega, fun v hv => ?_⟩
    · by_cases h0 : len = 0
      · subst h0; exact .inl (by simp)
      · obtain ⟨b, off, spot⟩ := a
        have hc0 := (hf 0 (by omega)).1.1
        have hspot : spot = none := by simpa [Addr.add] using World.cell?_spot hc0
        subst hspot
        refine .inr ⟨b, off, rfl, ?_, fun i y hy => ?_⟩
        · apply Classical.byContradiction
          intro hn
          have : W.heap[b]? = none := Array.getElem?_eq_none (by omega)
          simp [Addr.add, World.cell?, this] at hc0
        · simp only [List.getElem?_map, Option.map_eq_some_iff] at hy
          obtain ⟨j, hj, rfl⟩ := hy
          have hji := List.getElem?_eq_some_iff.1 hj
          obtain ⟨hlt, e⟩ := hji
          simp at hlt e
          subst e
          have h1 := hf i hlt
          have e1 : (⟨b, off, none⟩ : Addr).add (i * 2) = ⟨b, off + i * 2, none⟩ := by
            unfold Addr.add
            by_cases hi0 : i * 2 = 0
            · simp [hi0]
            · simp [hi0]
          rw [e1] at h1
          obtain ⟨⟨q0, q1⟩, ⟨g0, g1⟩, _⟩ := h1
          exact ⟨⟨q0, by simpa [Addr.add] using q1⟩, g0, g1⟩
    · simp only [List.mem_map, List.mem_range] at hv
      obtain ⟨i, hi', rfl⟩ := hv
      exact (hf i hi').2.2
end Go.Proofs.YtnaggcdhimcilaaGreat
/- Places that came in: each can be read. -/
namespace Go.Proofs.YtnaggcdhimcilaaGreat
open Go.ChangeShapes Go.WideShapes Go.ChangeAt Go.RowKit Go.Joins

set_option maxRecDepth 100000 in
theorem cells_chain {H : Type} {enc : TypeId × Value → H} {W : World} {fuel : Nat} {cs : List Value} {x : DataW H × List MemPlace}
    (h : DataW.trod enc Tryz.prog W 0 (fun _ => true) true fuel 24 cs = some x) :
    ∃ (a : Option Addr) (cap : Nat) (ns : List Nd), cs = [.slice a ns.length cap] ∧ Ng W W.heap.size a ns ∧ ns.length ≤ 9223372036854775807 ∧ BigN ns := by
  obtain ⟨xs, n, _, _, hlen, hyl, hg⟩ := DataW.trod_struct Tryz.underlying24 h
  have hc : Tryz.prog.cellsOf 24 = 1 := by kernel_rfl
  have hk : Tryz.prog.cellsOf 22 = 1 := by kernel_rfl
  rw [hc] at hlen
  match cs, hlen with
  | [c0], _ =>
    have h0 := hg 0 _ rfl
    simp [hk] at h0
    match xs, hyl with
    | [y0], _ =>
      simp at h0
      exact read_nodes h0
set_option maxRecDepth 100000 in
/-- A slice of logs that came in: each can be read. -/
theorem read_logs {H : Type} {enc : TypeId × Value → H} {W : World} {fuel : Nat} {cs : List Value} {x : DataW H × List MemPlace}
    (h : DataW.trod enc Tryz.prog W 0 (fun _ => true) true fuel 26 cs = some x) :
    ∃ (a : Option Addr) (cap : Nat) (ls : List Lg), cs = [.slice a ls.length cap] ∧ Lgs W W.heap.size a ls ∧ ls.length ≤ 9223372036854775807 ∧ BigL ls := by
  rcases Go.Deep.open_slice Tryz.underlying26 h with ⟨h0, _⟩ | ⟨a, len, cap, m, n, D, Pl, hcs, _, hl, hm, hmm, _, hi⟩
  · exact ⟨none, 0, [], h0, .inl rfl, by simp, fun n hn => by simp at hn⟩
  · have hc : Tryz.prog.cellsOf 25 = 1 := by kernel_rfl
    simp only [if_true] at hmm
    subst hmm
    have hall : ∀ i : Nat, ∃ n : Lg, i < len → W.cell? (a.add (i * 1)) = some (.slice n.a n.vs.length n.c) ∧ Vg W W.heap.size n.a n.vs ∧ BigV n.vs := by
      intro i
      by_cases hlt : i < len
      · obtain ⟨cs', hcells, ht⟩ := hi i (by omega)
        obtain ⟨b, c, vs, rfl, hT, hB⟩ := read_vers ht
        rw [hc] at hcells
        obtain ⟨_, _, hat⟩ := World.cells?_some hcells
        refine ⟨⟨b, c, vs⟩, fun _ => ⟨?_, hT, hB⟩⟩
        have := hat 0 (by omega)
        simpa [Addr.add] using this
      · exact ⟨⟨none, 0, []⟩, fun h => absurd h hlt⟩
    obtain ⟨f, hf⟩ := Classical.axiomOfChoice hall
    refine ⟨some a, m, (List.range len).map f, by simpa using hcs, ?_, by simp; unfold maxLen at hm; omega, fun v hv => ?_⟩
    · by_cases h0 : len = 0
      · subst h0; exact .inl (by simp)
      · obtain ⟨b, off, spot⟩ := a
        have hc0 := (hf 0 (by omega)).1
        have hspot : spot = none := by simpa [Addr.add] using World.cell?_spot hc0
        subst hspot
        refine .inr ⟨b, off, rfl, ?_, fun i y hy => ?_⟩
        · apply Classical.byContradiction
          intro hn
          have : W.heap[b]? = none := Array.getElem?_eq_none (by omega)
          simp [Addr.add, World.cell?, this] at hc0
        · simp only [List.getElem?_map, Option.map_eq_some_iff] at hy
          obtain ⟨j, hj, rfl⟩ := hy
          have hji := List.getElem?_eq_some_iff.1 hj
          obtain ⟨hlt, e⟩ := hji
          simp at hlt e
          subst e
          have h1 := hf i hlt
          have e1 : (⟨b, off, none⟩ : Addr).add (i * 1) = ⟨b, off + i, none⟩ := by
            rw [Nat.mul_one]
            unfold Addr.add
            by_cases hi0 : i = 0
            · simp [hi0]
            · simp [hi0]
          rw [e1] at h1
          exact ⟨h1.1, h1.2.1⟩
    · simp only [List.mem_map, List.mem_range] at hv
      obtain ⟨i, hi', rfl⟩ := hv
      exact (hf i hi').2.2
set_option maxRecDepth 100000 in
theorem cells_place {H : Type} {enc : TypeId × Value → H} {W : World} {fuel : Nat} {cs : List Value} {x : DataW H × List MemPlace}
    (h : DataW.trod enc Tryz.prog W 0 (fun _ => true) true fuel 28 cs = some x) :
    ∃ p : Pl, cs = [.int .i64 p.me, .int .i64 p.ck, .slice p.ca p.ns.length p.cc, .slice p.la p.log.length p.lc, .slice p.ga p.gs.length p.gc, .bool p.fell] ∧ Pg W W.heap.size p ∧ BigP p := by
  obtain ⟨xs, n, _, _, hsz, hlen, hg⟩ := DataW.trod_struct Tryz.underlying28 h
  have hc : Tryz.prog.cellsOf 28 = 6 := by kernel_rfl
  have k1 : Tryz.prog.cellsOf 3 = 1 := by kernel_rfl
  have k2 : Tryz.prog.cellsOf 24 = 1 := by kernel_rfl
  have k3 : Tryz.prog.cellsOf 25 = 1 := by kernel_rfl
  have k4 : Tryz.prog.cellsOf 26 = 1 := by kernel_rfl
  have k5 : Tryz.prog.cellsOf 4 = 1 := by kernel_rfl
  rw [hc] at hsz
  match cs, hsz with
  | [c0, c1, c2, c3, c4, c5], _ =>
    have h0 := hg 0 _ rfl
    have h1 := hg 1 _ rfl
    have h2 := hg 2 _ rfl
    have h3 := hg 3 _ rfl
    have h4 := hg 4 _ rfl
    have h5 := hg 5 _ rfl
    simp [k1, k2, k3, k4, k5] at h0 h1 h2 h3 h4 h5
    match xs, hlen with
    | [y0, y1, y2, y3, y4, y5], _ =>
      simp at h0 h1 h2 h3 h4 h5
      obtain ⟨me, e0, _, _⟩ := DataW.trod_int Tryz.underlying3 h0
      obtain ⟨ck, e1, _, _⟩ := DataW.trod_int Tryz.underlying3 h1
      obtain ⟨ca, cc, ns, e2, g2, l2, b2⟩ := cells_chain h2
      obtain ⟨la, lc, log, e3, g3, b3⟩ := read_vers h3
      obtain ⟨ga, gc, gs, e4, g4, l4, b4⟩ := read_logs h4
      obtain ⟨f, e5, _⟩ := DataW.trod_bool Tryz.underlying4 h5
      simp at e0 e1 e2 e3 e4 e5
      subst e0 e1 e2 e3 e4 e5
      exact ⟨⟨me, ck, ca, cc, ns, la, lc, log, ga, gc, gs, f⟩, rfl, ⟨g2, g3, g4⟩, ⟨l2, b2⟩, b3, l4, b4⟩
set_option maxRecDepth 100000 in
/-- A place that came in. -/
theorem read_place {H : Type} {enc : TypeId × Value → H} {W : World} {base : Nat} {v : Value} {d : DataW H} {p : List MemPlace}
    (hv : Value.okWide Tryz.prog W .any base 28 v) (h : DataW.Trod enc Tryz.prog W 0 (fun _ => true) true 28 v d p) :
    ∃ q : Pl, v = .agg (plCells q) ∧ Pg W W.heap.size q ∧ BigP q := by
  obtain ⟨cs, rfl, hsz⟩ := okWide_struct Tryz.underlying28 hv
  obtain ⟨fuel, hf⟩ := h
  obtain ⟨l⟩ := cs
  obtain ⟨q, e, hq⟩ := cells_place hf
  simp [Value.cells] at e
  exact ⟨q, by rw [e], hq⟩
end Go.Proofs.YtnaggcdhimcilaaGreat
/- Rows of logs as they grow: how they are kept and lengthened. Condition: what is said of each. -/
namespace Go.Proofs.YtnaggcdhimcilaaGreat
open Go.RowKit Go.Joins
attribute [local go_sem ↓] Go.wp_at_zero Go.wp_at_succ

/-- The blocks of a slice of versions, that of the slice among them though nothing is in it. -/
def FootV (A : Option Addr) (c : Nat) (us : List V) (g : Nat) : Prop := FootS A us g ∨ (Value.slice A us.length c).ownBlock = some g
def cellG (l : Lg) : Value := .slice l.a l.vs.length l.c
def flatG (us : List Lg) : List Value := us.map cellG
theorem flatG_snoc (us : List Lg) (v : Lg) : flatG (us ++ [v]) = flatG us ++ [cellG v] := by simp [flatG]
theorem CRow.foot {base : Nat} {wr : World} {A : Option Addr} {c : Nat} {us : List V} (h : CRow base wr (.slice A us.length c) us) {g : Nat} (hf : FootV A c us g) : base ≤ g ∧ g < wr.heap.size := by
  rcases hf with hf | hf
  · obtain ⟨A', cap, e, hr⟩ := h.resS
    injection e with e1 e2 e3
    subst e1
    exact hr.foot hf
  · obtain ⟨_, _, h1⟩ := h.typed g hf
    exact h1
theorem CRow.resV {base : Nat} {wr : World} {A : Option Addr} {c n : Nat} {us : List V} (h : CRow base wr (.slice A n c) us) : n = us.length ∧ ResS wr base wr.heap.size A us := by
  obtain ⟨A', cap, e, hr⟩ := h.resS
  injection e with e1 e2 e3
  subst e1
  exact ⟨e2, hr⟩
theorem CRow.turnP {P : Nat → Prop} {base : Nat} {wr w2 : World} {A : Option Addr} {c : Nat} {us : List V} (h : CRow base wr (.slice A us.length c) us) (ht : Turn P wr w2) (hp : ∀ g, FootV A c us g → ¬ P g) : CRow base w2 (.slice A us.length c) us :=
  h.turned ht (fun g e => hp g (.inr e)) (fun i v hi g hg _ hne => hp g (.inl (by
    obtain ⟨A', cap, e, hr⟩ := h.resS
    injection e with e1 e2 e3
    subst e1
    have h0 : us ≠ [] := fun e => by rw [e] at hi; simp at hi
    refine ⟨h0, ?_⟩
    rcases hr with h' | ⟨G, cur, e, hO⟩
    · exact absurd h' h0
    · exact ⟨G, e, .inr ⟨i, v, hi, hne, hg⟩⟩)))
/-- A row of logs as it grows. -/
structure HRow (base : Nat) (wr : World) (x : Value) (us : List Lg) : Prop where
  row : wr.ownsRow base 33 1 x us.length (flatG us)
  log : ∀ (i : Nat) l, us[i]? = some l → CRow base wr (.slice l.a l.vs.length l.c) l.vs
  apart : ∀ (i j : Nat) l l', i ≠ j → us[i]? = some l → us[j]? = some l' → ∀ g, FootV l.a l.c l.vs g → ¬ FootV l'.a l'.c l'.vs g
  lo : base ≤ wr.heap.size
theorem HRow.start (base : Nat) (w : World) (h : base ≤ w.heap.size) : HRow base w (.slice none 0 0) [] :=
  ⟨World.ownsRow_nil _ _ _ _, fun i v h => by simp at h, fun i j v v' _ h => by simp at h, h⟩
theorem HRow.typed {base : Nat} {wr : World} {x : Value} {us : List Lg} (h : HRow base wr x us) (r : Nat) (hr : x.ownBlock = some r) : ∃ cs, Blk wr r 33 cs ∧ base ≤ r ∧ r < wr.heap.size := by
  rcases h.row.2 with ⟨rfl, _⟩ | ⟨g', cap, cr, rfl, hg', hb', _⟩
  · simp [Value.ownBlock] at hr
  · simp [Value.ownBlock] at hr
    subst hr
    exact ⟨cr, hb', hg', Blk.inside hb'⟩
theorem HRow.form {base : Nat} {wr : World} {x : Value} {us : List Lg} (h : HRow base wr x us) : ∃ A c, x = .slice A us.length c := by
  rcases h.row.2 with ⟨rfl, e⟩ | ⟨g', cap, cr, rfl, hg', hb', _⟩
  · exact ⟨none, 0, by rw [show us.length = 0 by omega]⟩
  · exact ⟨_, _, rfl⟩
theorem HRow.on {base : Nat} {wr w2 : World} {x : Value} {us : List Lg} (h : HRow base wr x us) (hb : Below wr.heap.size wr w2) : HRow base w2 x us :=
  ⟨World.ownsRow.kept h.row (grown_none (row := none) hb) (Classical.em _), fun i v hi => (h.log i v hi).on hb, h.apart, Nat.le_trans h.lo hb.size⟩
/-- The blocks of a row of logs. -/
def FootH (x : Value) (us : List Lg) (g : Nat) : Prop := x.ownBlock = some g ∨ ∃ (i : Nat) (l : Lg), us[i]? = some l ∧ FootV l.a l.c l.vs g
theorem HRow.foot {base : Nat} {wr : World} {x : Value} {us : List Lg} (h : HRow base wr x us) {g : Nat} (hf : FootH x us g) : base ≤ g ∧ g < wr.heap.size := by
  rcases hf with hf | ⟨i, l, hi, hf⟩
  · obtain ⟨_, _, h1⟩ := h.typed g hf
    exact h1
  · exact (h.log i l hi).foot hf
theorem HRow.turned {P : Nat → Prop} {base : Nat} {wr w2 : World} {x : Value} {us : List Lg} (h : HRow base wr x us) (ht : Turn P wr w2) (hp : ∀ g, FootH x us g → ¬ P g) : HRow base w2 x us := by
  refine ⟨⟨h.row.1, ?_⟩, fun i v hi => (h.log i v hi).turnP ht (fun g hf => hp g (.inr ⟨i, v, hi, hf⟩)), h.apart, Nat.le_trans h.lo ht.size⟩
  rcases h.row.2 with h' | ⟨g, cap, cr, h1, h2, h3, h4⟩
  · exact .inl h'
  · exact .inr ⟨g, cap, cr, h1, h2, Blk.turned (show Blk wr g 33 cr from h3) ht (hp g (.inl (by rw [h1]; rfl))), h4⟩
theorem HRow.aside {base : Nat} {wr : World} {x : Value} {us : List Lg} (h : HRow base wr x us) {p : Addr} (hp : p.block < base) (u : Value) : HRow base (wr.setCell p u) x us :=
  h.turned ((Turn.refl (fun g => g = p.block) wr).set (p := p) rfl u) (fun g hf e => by have := h.foot hf; omega)
theorem HRow.down {base base' : Nat} {wr : World} {x : Value} {us : List Lg} (h : HRow base wr x us) (hb : base' ≤ base) : HRow base' wr x us :=
  ⟨⟨h.row.1, by
    rcases h.row.2 with h | ⟨g, cap, cr, h1, h2, h3⟩
    · exact .inl h
    · exact .inr ⟨g, cap, cr, h1, by omega, h3⟩⟩, fun i v hi => (h.log i v hi).down hb, h.apart, by have := h.lo; omega⟩
/-- One log more. -/
theorem HRow.push {base : Nat} {wr w1 w2 : World} {x : Value} {us : List Lg} {v : Lg} {g cap : Nat} (h : HRow base wr x us) (hb : Below wr.heap.size wr w1) (hc : CRow wr.heap.size w1 (.slice v.a v.vs.length v.c) v.vs)
    (hown : w2.ownsRow base 33 1 (.slice (some ⟨g, 0, none⟩) (us.length + 1) cap) (us.length + 1) (flatG us ++ [cellG v])) (hg : w1.grownBy w2 x.ownBlock) : HRow base w2 (.slice (some ⟨g, 0, none⟩) (us.length + 1) cap) (us ++ [v]) := by
  have ht : Turn (fun g => x.ownBlock = some g) w1 w2 := .of hg (fun g e => e)
  have hq : ∀ {B : Nat} {y : Value} {l : List V}, CRow B w1 y l → CRow B w2 y l := fun hr => hr.turnedT ht (fun g e => by
    obtain ⟨cs, h1, _⟩ := h.typed g e
    exact ⟨_, cs, h1.on hb, vers_ne_ver, vers_ne_tag⟩)
  have zb := h.lo
  have z1 := hb.size
  have z2 := hg.size
  have hnew : ∀ g, FootV v.a v.c v.vs g → wr.heap.size ≤ g := fun g hf => (hc.foot hf).1
  have hold : ∀ {i : Nat} {y : Lg}, us[i]? = some y → ∀ g, FootV y.a y.c y.vs g → g < wr.heap.size := fun hi g hf => ((h.log _ _ hi).foot hf).2
  refine ⟨by simpa [flatG_snoc] using hown, fun i y hy => ?_, fun i j y y' hne hy hy' => ?_, by omega⟩
  · rcases snoc_get rfl i y hy with ⟨rfl, rfl⟩ | ⟨_, hy⟩
    · exact (hq hc).down zb
    · exact hq ((h.log i y hy).on hb)
  · rcases snoc_get rfl i y hy with ⟨e1, e2⟩ | ⟨e, hr⟩ <;> rcases snoc_get rfl j y' hy' with ⟨e3, e4⟩ | ⟨e', hr'⟩
    · omega
    · rw [e2]; exact fun g hf hf' => by have := hnew g hf; have := hold hr' g hf'; omega
    · rw [e4]; exact fun g hf hf' => by have := hnew g hf'; have := hold hr g hf; omega
    · exact h.apart i j y y' hne hr hr'
theorem HRow.res {base : Nat} {wr : World} {A : Option Addr} {n c : Nat} {us : List Lg} (h : HRow base wr (.slice A n c) us) : n = us.length ∧ ResL wr base wr.heap.size A us := by
  rcases h.row.2 with ⟨e0, e⟩ | ⟨g', cap, cr, e0, hg', hb', hn, hm, hs, ht⟩
  · injection e0 with _ e1 _
    exact ⟨by omega, .inl (List.length_eq_zero_iff.1 (by omega))⟩
  · injection e0 with e0 e1 e2
    subst e0 e1 e2
    have hsz : us.length ≤ cr.size := by
      have := congrArg List.length ht
      simp [flatG] at this
      omega
    refine ⟨rfl, .inr ⟨g', cr, rfl, hb', hg', Blk.inside hb', hsz, fun i l hi => ?_, fun i l hi => (h.log i l hi).resV.2, fun i j l l' hne hi hj g h1 h2 => h.apart i j l l' hne hi hj g (.inl h1) (.inl h2)⟩⟩
    have hil := (List.getElem?_eq_some_iff.1 hi).1
    have e1 : (cr.toList.take (us.length * 1))[i]? = some (cellG l) := by
      rw [ht]
      unfold flatG
      rw [List.getElem?_map, hi]
      rfl
    rw [List.getElem?_take] at e1
    split at e1
    · simpa [cellG] using e1
    · cases e1
end Go.Proofs.YtnaggcdhimcilaaGreat
