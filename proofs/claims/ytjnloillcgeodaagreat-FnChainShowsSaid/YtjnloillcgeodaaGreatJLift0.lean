/- Closed facts on the whole program that each law's row asks, reckoned once: what the head of the translation says. -/
import Derived.Test.YtjnloillcgeodaaGreatRows
import Derived.Test.YtjnloillcgeodaaGreatProg
import Derived.JoinedOf
import Derived.WalkKit
import Derived.WalkSpells
import Derived.Lib.SmallJoins
import Derived.Deep.RegionHeld3
import Derived.Deep.DrawnRows
import Derived.WalkLawsBesides
import Derived.Laws.MakeOwn
import Derived.ProofKit
import Derived.OpenShut
import Derived.ChangeOld
import Derived.Below
import Derived.Carry
import Derived.Deep.Slices
namespace Go.Proofs.YtjnloillcgeodaaGreat

/-- The signs of the head's line. -/
def headSigns : List Char := [Char.ofNat 104, Char.ofNat 97, Char.ofNat 114, Char.ofNat 110, Char.ofNat 101, Char.ofNat 115, Char.ofNat 115, Char.ofNat 32, Char.ofNat 51, Char.ofNat 50, Char.ofNat 56, Char.ofNat 53, Char.ofNat 102, Char.ofNat 51, Char.ofNat 97, Char.ofNat 48, Char.ofNat 55, Char.ofNat 51, Char.ofNat 54, Char.ofNat 48, Char.ofNat 99, Char.ofNat 57, Char.ofNat 98, Char.ofNat 99, Char.ofNat 97, Char.ofNat 100, Char.ofNat 54, Char.ofNat 98, Char.ofNat 54, Char.ofNat 101, Char.ofNat 101, Char.ofNat 98, Char.ofNat 97, Char.ofNat 54, Char.ofNat 100, Char.ofNat 102, Char.ofNat 98, Char.ofNat 102, Char.ofNat 56, Char.ofNat 57, Char.ofNat 48, Char.ofNat 53, Char.ofNat 54, Char.ofNat 102, Char.ofNat 57, Char.ofNat 55, Char.ofNat 100, Char.ofNat 48, Char.ofNat 51, Char.ofNat 50, Char.ofNat 57, Char.ofNat 102, Char.ofNat 48, Char.ofNat 97, Char.ofNat 102, Char.ofNat 54, Char.ofNat 50, Char.ofNat 57, Char.ofNat 55, Char.ofNat 98, Char.ofNat 101, Char.ofNat 56, Char.ofNat 50, Char.ofNat 54, Char.ofNat 102, Char.ofNat 55, Char.ofNat 97, Char.ofNat 48, Char.ofNat 99, Char.ofNat 49, Char.ofNat 51, Char.ofNat 98, Char.ofNat 32, Char.ofNat 99, Char.ofNat 117, Char.ofNat 116, Char.ofNat 32, Char.ofNat 97, Char.ofNat 116, Char.ofNat 32, Char.ofNat 108, Char.ofNat 111, Char.ofNat 111, Char.ofNat 112, Char.ofNat 46, Char.ofNat 101, Char.ofNat 120, Char.ofNat 97, Char.ofNat 109, Char.ofNat 112, Char.ofNat 108, Char.ofNat 101, Char.ofNat 47, Char.ofNat 99, Char.ofNat 111, Char.ofNat 110, Char.ofNat 102, Char.ofNat 108, Char.ofNat 117, Char.ofNat 101, Char.ofNat 110, Char.ofNat 99, Char.ofNat 101, Char.ofNat 47, Char.ofNat 108, Char.ofNat 97, Char.ofNat 119, Char.ofNat 115, Char.ofNat 46, Char.ofNat 70, Char.ofNat 110, Char.ofNat 67, Char.ofNat 104, Char.ofNat 97, Char.ofNat 105, Char.ofNat 110, Char.ofNat 70, Char.ofNat 97, Char.ofNat 108, Char.ofNat 108, Char.ofNat 32, Char.ofNat 108, Char.ofNat 111, Char.ofNat 111, Char.ofNat 112, Char.ofNat 46, Char.ofNat 101, Char.ofNat 120, Char.ofNat 97, Char.ofNat 109, Char.ofNat 112, Char.ofNat 108, Char.ofNat 101, Char.ofNat 47, Char.ofNat 99, Char.ofNat 111, Char.ofNat 110, Char.ofNat 102, Char.ofNat 108, Char.ofNat 117, Char.ofNat 101, Char.ofNat 110, Char.ofNat 99, Char.ofNat 101, Char.ofNat 47, Char.ofNat 108, Char.ofNat 97, Char.ofNat 119, Char.ofNat 115, Char.ofNat 46, Char.ofNat 70, Char.ofNat 110, Char.ofNat 67, Char.ofNat 104, Char.ofNat 97, Char.ofNat 105, Char.ofNat 110, Char.ofNat 74, Char.ofNat 111, Char.ofNat 105, Char.ofNat 110, Char.ofNat 32, Char.ofNat 108, Char.ofNat 111, Char.ofNat 111, Char.ofNat 112, Char.ofNat 46, Char.ofNat 101, Char.ofNat 120, Char.ofNat 97, Char.ofNat 109, Char.ofNat 112, Char.ofNat 108, Char.ofNat 101, Char.ofNat 47, Char.ofNat 99, Char.ofNat 111, Char.ofNat 110, Char.ofNat 102, Char.ofNat 108, Char.ofNat 117, Char.ofNat 101, Char.ofNat 110, Char.ofNat 99, Char.ofNat 101, Char.ofNat 47, Char.ofNat 108, Char.ofNat 97, Char.ofNat 119, Char.ofNat 115, Char.ofNat 46, Char.ofNat 70, Char.ofNat 110, Char.ofNat 67, Char.ofNat 104, Char.ofNat 97, Char.ofNat 105, Char.ofNat 110, Char.ofNat 83, Char.ofNat 104, Char.ofNat 111, Char.ofNat 119, Char.ofNat 115, Char.ofNat 32, Char.ofNat 108, Char.ofNat 111, Char.ofNat 111, Char.ofNat 112, Char.ofNat 46, Char.ofNat 101, Char.ofNat 120, Char.ofNat 97, Char.ofNat 109, Char.ofNat 112, Char.ofNat 108, Char.ofNat 101, Char.ofNat 47, Char.ofNat 99, Char.ofNat 111, Char.ofNat 110, Char.ofNat 102, Char.ofNat 108, Char.ofNat 117, Char.ofNat 101, Char.ofNat 110, Char.ofNat 99, Char.ofNat 101, Char.ofNat 47, Char.ofNat 108, Char.ofNat 97, Char.ofNat 119, Char.ofNat 115, Char.ofNat 46, Char.ofNat 70, Char.ofNat 110, Char.ofNat 69, Char.ofNat 120, Char.ofNat 97, Char.ofNat 99, Char.ofNat 116, Char.ofNat 67, Char.ofNat 104, Char.ofNat 97, Char.ofNat 105, Char.ofNat 110, Char.ofNat 70, Char.ofNat 97, Char.ofNat 108, Char.ofNat 108]
set_option maxRecDepth 100000 in
theorem head_is : Tryz.prog.initOrder = String.ofList headSigns := by kernel_rfl
theorem head_signs : Tryz.prog.initOrder.toList = headSigns := by rw [head_is, String.toList_ofList]
set_option maxRecDepth 100000 in
theorem head_lifts : Tryz.prog.liftsFinal = false := by
  unfold Program.liftsFinal Program.headLifts
  rw [head_signs]
  kernel_rfl

/-- The names of the functions without a body. -/
def bareNames : List (List Char) := [[Char.ofNat 109, Char.ofNat 97, Char.ofNat 105, Char.ofNat 110, Char.ofNat 46, Char.ofNat 109, Char.ofNat 97, Char.ofNat 105, Char.ofNat 110], [Char.ofNat 103, Char.ofNat 111, Char.ofNat 115, Char.ofNat 101, Char.ofNat 109, Char.ofNat 46, Char.ofNat 99, Char.ofNat 117, Char.ofNat 116], [Char.ofNat 40, Char.ofNat 114, Char.ofNat 117, Char.ofNat 110, Char.ofNat 116, Char.ofNat 105, Char.ofNat 109, Char.ofNat 101, Char.ofNat 46, Char.ofNat 98, Char.ofNat 111, Char.ofNat 117, Char.ofNat 110, Char.ofNat 100, Char.ofNat 115, Char.ofNat 69, Char.ofNat 114, Char.ofNat 114, Char.ofNat 111, Char.ofNat 114, Char.ofNat 41, Char.ofNat 46, Char.ofNat 69, Char.ofNat 114, Char.ofNat 114, Char.ofNat 111, Char.ofNat 114], [Char.ofNat 40, Char.ofNat 114, Char.ofNat 117, Char.ofNat 110, Char.ofNat 116, Char.ofNat 105, Char.ofNat 109, Char.ofNat 101, Char.ofNat 46, Char.ofNat 98, Char.ofNat 111, Char.ofNat 117, Char.ofNat 110, Char.ofNat 100, Char.ofNat 115, Char.ofNat 69, Char.ofNat 114, Char.ofNat 114, Char.ofNat 111, Char.ofNat 114, Char.ofNat 41, Char.ofNat 46, Char.ofNat 82, Char.ofNat 117, Char.ofNat 110, Char.ofNat 116, Char.ofNat 105, Char.ofNat 109, Char.ofNat 101, Char.ofNat 69, Char.ofNat 114, Char.ofNat 114, Char.ofNat 111, Char.ofNat 114], [Char.ofNat 40, Char.ofNat 114, Char.ofNat 117, Char.ofNat 110, Char.ofNat 116, Char.ofNat 105, Char.ofNat 109, Char.ofNat 101, Char.ofNat 46, Char.ofNat 101, Char.ofNat 114, Char.ofNat 114, Char.ofNat 111, Char.ofNat 114, Char.ofNat 83, Char.ofNat 116, Char.ofNat 114, Char.ofNat 105, Char.ofNat 110, Char.ofNat 103, Char.ofNat 41, Char.ofNat 46, Char.ofNat 69, Char.ofNat 114, Char.ofNat 114, Char.ofNat 111, Char.ofNat 114], [Char.ofNat 40, Char.ofNat 114, Char.ofNat 117, Char.ofNat 110, Char.ofNat 116, Char.ofNat 105, Char.ofNat 109, Char.ofNat 101, Char.ofNat 46, Char.ofNat 101, Char.ofNat 114, Char.ofNat 114, Char.ofNat 111, Char.ofNat 114, Char.ofNat 83, Char.ofNat 116, Char.ofNat 114, Char.ofNat 105, Char.ofNat 110, Char.ofNat 103, Char.ofNat 41, Char.ofNat 46, Char.ofNat 82, Char.ofNat 117, Char.ofNat 110, Char.ofNat 116, Char.ofNat 105, Char.ofNat 109, Char.ofNat 101, Char.ofNat 69, Char.ofNat 114, Char.ofNat 114, Char.ofNat 111, Char.ofNat 114], [Char.ofNat 40, Char.ofNat 114, Char.ofNat 117, Char.ofNat 110, Char.ofNat 116, Char.ofNat 105, Char.ofNat 109, Char.ofNat 101, Char.ofNat 46, Char.ofNat 112, Char.ofNat 108, Char.ofNat 97, Char.ofNat 105, Char.ofNat 110, Char.ofNat 69, Char.ofNat 114, Char.ofNat 114, Char.ofNat 111, Char.ofNat 114, Char.ofNat 41, Char.ofNat 46, Char.ofNat 69, Char.ofNat 114, Char.ofNat 114, Char.ofNat 111, Char.ofNat 114], [Char.ofNat 40, Char.ofNat 114, Char.ofNat 117, Char.ofNat 110, Char.ofNat 116, Char.ofNat 105, Char.ofNat 109, Char.ofNat 101, Char.ofNat 46, Char.ofNat 112, Char.ofNat 108, Char.ofNat 97, Char.ofNat 105, Char.ofNat 110, Char.ofNat 69, Char.ofNat 114, Char.ofNat 114, Char.ofNat 111, Char.ofNat 114, Char.ofNat 41, Char.ofNat 46, Char.ofNat 82, Char.ofNat 117, Char.ofNat 110, Char.ofNat 116, Char.ofNat 105, Char.ofNat 109, Char.ofNat 101, Char.ofNat 69, Char.ofNat 114, Char.ofNat 114, Char.ofNat 111, Char.ofNat 114], [Char.ofNat 40, Char.ofNat 114, Char.ofNat 117, Char.ofNat 110, Char.ofNat 116, Char.ofNat 105, Char.ofNat 109, Char.ofNat 101, Char.ofNat 46, Char.ofNat 101, Char.ofNat 114, Char.ofNat 114, Char.ofNat 111, Char.ofNat 114, Char.ofNat 65, Char.ofNat 100, Char.ofNat 100, Char.ofNat 114, Char.ofNat 101, Char.ofNat 115, Char.ofNat 115, Char.ofNat 83, Char.ofNat 116, Char.ofNat 114, Char.ofNat 105, Char.ofNat 110, Char.ofNat 103, Char.ofNat 41, Char.ofNat 46, Char.ofNat 69, Char.ofNat 114, Char.ofNat 114, Char.ofNat 111, Char.ofNat 114], [Char.ofNat 40, Char.ofNat 114, Char.ofNat 117, Char.ofNat 110, Char.ofNat 116, Char.ofNat 105, Char.ofNat 109, Char.ofNat 101, Char.ofNat 46, Char.ofNat 101, Char.ofNat 114, Char.ofNat 114, Char.ofNat 111, Char.ofNat 114, Char.ofNat 65, Char.ofNat 100, Char.ofNat 100, Char.ofNat 114, Char.ofNat 101, Char.ofNat 115, Char.ofNat 115, Char.ofNat 83, Char.ofNat 116, Char.ofNat 114, Char.ofNat 105, Char.ofNat 110, Char.ofNat 103, Char.ofNat 41, Char.ofNat 46, Char.ofNat 82, Char.ofNat 117, Char.ofNat 110, Char.ofNat 116, Char.ofNat 105, Char.ofNat 109, Char.ofNat 101, Char.ofNat 69, Char.ofNat 114, Char.ofNat 114, Char.ofNat 111, Char.ofNat 114], [Char.ofNat 40, Char.ofNat 42, Char.ofNat 114, Char.ofNat 117, Char.ofNat 110, Char.ofNat 116, Char.ofNat 105, Char.ofNat 109, Char.ofNat 101, Char.ofNat 46, Char.ofNat 84, Char.ofNat 121, Char.ofNat 112, Char.ofNat 101, Char.ofNat 65, Char.ofNat 115, Char.ofNat 115, Char.ofNat 101, Char.ofNat 114, Char.ofNat 116, Char.ofNat 105, Char.ofNat 111, Char.ofNat 110, Char.ofNat 69, Char.ofNat 114, Char.ofNat 114, Char.ofNat 111, Char.ofNat 114, Char.ofNat 41, Char.ofNat 46, Char.ofNat 69, Char.ofNat 114, Char.ofNat 114, Char.ofNat 111, Char.ofNat 114], [Char.ofNat 40, Char.ofNat 42, Char.ofNat 114, Char.ofNat 117, Char.ofNat 110, Char.ofNat 116, Char.ofNat 105, Char.ofNat 109, Char.ofNat 101, Char.ofNat 46, Char.ofNat 84, Char.ofNat 121, Char.ofNat 112, Char.ofNat 101, Char.ofNat 65, Char.ofNat 115, Char.ofNat 115, Char.ofNat 101, Char.ofNat 114, Char.ofNat 116, Char.ofNat 105, Char.ofNat 111, Char.ofNat 110, Char.ofNat 69, Char.ofNat 114, Char.ofNat 114, Char.ofNat 111, Char.ofNat 114, Char.ofNat 41, Char.ofNat 46, Char.ofNat 82, Char.ofNat 117, Char.ofNat 110, Char.ofNat 116, Char.ofNat 105, Char.ofNat 109, Char.ofNat 101, Char.ofNat 69, Char.ofNat 114, Char.ofNat 114, Char.ofNat 111, Char.ofNat 114], [Char.ofNat 40, Char.ofNat 42, Char.ofNat 114, Char.ofNat 117, Char.ofNat 110, Char.ofNat 116, Char.ofNat 105, Char.ofNat 109, Char.ofNat 101, Char.ofNat 46, Char.ofNat 80, Char.ofNat 97, Char.ofNat 110, Char.ofNat 105, Char.ofNat 99, Char.ofNat 78, Char.ofNat 105, Char.ofNat 108, Char.ofNat 69, Char.ofNat 114, Char.ofNat 114, Char.ofNat 111, Char.ofNat 114, Char.ofNat 41, Char.ofNat 46, Char.ofNat 69, Char.ofNat 114, Char.ofNat 114, Char.ofNat 111, Char.ofNat 114], [Char.ofNat 40, Char.ofNat 42, Char.ofNat 114, Char.ofNat 117, Char.ofNat 110, Char.ofNat 116, Char.ofNat 105, Char.ofNat 109, Char.ofNat 101, Char.ofNat 46, Char.ofNat 80, Char.ofNat 97, Char.ofNat 110, Char.ofNat 105, Char.ofNat 99, Char.ofNat 78, Char.ofNat 105, Char.ofNat 108, Char.ofNat 69, Char.ofNat 114, Char.ofNat 114, Char.ofNat 111, Char.ofNat 114, Char.ofNat 41, Char.ofNat 46, Char.ofNat 82, Char.ofNat 117, Char.ofNat 110, Char.ofNat 116, Char.ofNat 105, Char.ofNat 109, Char.ofNat 101, Char.ofNat 69, Char.ofNat 114, Char.ofNat 114, Char.ofNat 111, Char.ofNat 114], [Char.ofNat 40, Char.ofNat 42, Char.ofNat 105, Char.ofNat 110, Char.ofNat 116, Char.ofNat 101, Char.ofNat 114, Char.ofNat 110, Char.ofNat 97, Char.ofNat 108, Char.ofNat 47, Char.ofNat 97, Char.ofNat 98, Char.ofNat 105, Char.ofNat 46, Char.ofNat 84, Char.ofNat 121, Char.ofNat 112, Char.ofNat 101, Char.ofNat 41, Char.ofNat 46, Char.ofNat 65, Char.ofNat 108, Char.ofNat 105, Char.ofNat 103, Char.ofNat 110], [Char.ofNat 40, Char.ofNat 105, Char.ofNat 110, Char.ofNat 116, Char.ofNat 101, Char.ofNat 114, Char.ofNat 110, Char.ofNat 97, Char.ofNat 108, Char.ofNat 47, Char.ofNat 114, Char.ofNat 117, Char.ofNat 110, Char.ofNat 116, Char.ofNat 105, Char.ofNat 109, Char.ofNat 101, Char.ofNat 47, Char.ofNat 109, Char.ofNat 97, Char.ofNat 112, Char.ofNat 115, Char.ofNat 46, Char.ofNat 117, Char.ofNat 110, Char.ofNat 104, Char.ofNat 97, Char.ofNat 115, Char.ofNat 104, Char.ofNat 97, Char.ofNat 98, Char.ofNat 108, Char.ofNat 101, Char.ofNat 84, Char.ofNat 121, Char.ofNat 112, Char.ofNat 101, Char.ofNat 69, Char.ofNat 114, Char.ofNat 114, Char.ofNat 111, Char.ofNat 114, Char.ofNat 41, Char.ofNat 46, Char.ofNat 69, Char.ofNat 114, Char.ofNat 114, Char.ofNat 111, Char.ofNat 114], [Char.ofNat 40, Char.ofNat 105, Char.ofNat 110, Char.ofNat 116, Char.ofNat 101, Char.ofNat 114, Char.ofNat 110, Char.ofNat 97, Char.ofNat 108, Char.ofNat 47, Char.ofNat 114, Char.ofNat 117, Char.ofNat 110, Char.ofNat 116, Char.ofNat 105, Char.ofNat 109, Char.ofNat 101, Char.ofNat 47, Char.ofNat 109, Char.ofNat 97, Char.ofNat 112, Char.ofNat 115, Char.ofNat 46, Char.ofNat 117, Char.ofNat 110, Char.ofNat 104, Char.ofNat 97, Char.ofNat 115, Char.ofNat 104, Char.ofNat 97, Char.ofNat 98, Char.ofNat 108, Char.ofNat 101, Char.ofNat 84, Char.ofNat 121, Char.ofNat 112, Char.ofNat 101, Char.ofNat 69, Char.ofNat 114, Char.ofNat 114, Char.ofNat 111, Char.ofNat 114, Char.ofNat 41, Char.ofNat 46, Char.ofNat 82, Char.ofNat 117, Char.ofNat 110, Char.ofNat 116, Char.ofNat 105, Char.ofNat 109, Char.ofNat 101, Char.ofNat 69, Char.ofNat 114, Char.ofNat 114, Char.ofNat 111, Char.ofNat 114], [Char.ofNat 40, Char.ofNat 42, Char.ofNat 108, Char.ofNat 111, Char.ofNat 111, Char.ofNat 112, Char.ofNat 46, Char.ofNat 101, Char.ofNat 120, Char.ofNat 97, Char.ofNat 109, Char.ofNat 112, Char.ofNat 108, Char.ofNat 101, Char.ofNat 47, Char.ofNat 99, Char.ofNat 111, Char.ofNat 110, Char.ofNat 102, Char.ofNat 108, Char.ofNat 117, Char.ofNat 101, Char.ofNat 110, Char.ofNat 99, Char.ofNat 101, Char.ofNat 47, Char.ofNat 105, Char.ofNat 109, Char.ofNat 112, Char.ofNat 108, Char.ofNat 46, Char.ofNat 108, Char.ofNat 105, Char.ofNat 110, Char.ofNat 107, Char.ofNat 41, Char.ofNat 46, Char.ofNat 102, Char.ofNat 117, Char.ofNat 108, Char.ofNat 108], [Char.ofNat 40, Char.ofNat 108, Char.ofNat 111, Char.ofNat 111, Char.ofNat 112, Char.ofNat 46, Char.ofNat 101, Char.ofNat 120, Char.ofNat 97, Char.ofNat 109, Char.ofNat 112, Char.ofNat 108, Char.ofNat 101, Char.ofNat 47, Char.ofNat 99, Char.ofNat 111, Char.ofNat 110, Char.ofNat 102, Char.ofNat 108, Char.ofNat 117, Char.ofNat 101, Char.ofNat 110, Char.ofNat 99, Char.ofNat 101, Char.ofNat 47, Char.ofNat 105, Char.ofNat 109, Char.ofNat 112, Char.ofNat 108, Char.ofNat 46, Char.ofNat 116, Char.ofNat 111, Char.ofNat 109, Char.ofNat 98, Char.ofNat 115, Char.ofNat 116, Char.ofNat 111, Char.ofNat 110, Char.ofNat 101, Char.ofNat 41, Char.ofNat 46, Char.ofNat 105, Char.ofNat 110, Char.ofNat 116, Char.ofNat 111], [Char.ofNat 40, Char.ofNat 108, Char.ofNat 111, Char.ofNat 111, Char.ofNat 112, Char.ofNat 46, Char.ofNat 101, Char.ofNat 120, Char.ofNat 97, Char.ofNat 109, Char.ofNat 112, Char.ofNat 108, Char.ofNat 101, Char.ofNat 47, Char.ofNat 99, Char.ofNat 111, Char.ofNat 110, Char.ofNat 102, Char.ofNat 108, Char.ofNat 117, Char.ofNat 101, Char.ofNat 110, Char.ofNat 99, Char.ofNat 101, Char.ofNat 47, Char.ofNat 105, Char.ofNat 109, Char.ofNat 112, Char.ofNat 108, Char.ofNat 46, Char.ofNat 116, Char.ofNat 111, Char.ofNat 109, Char.ofNat 98, Char.ofNat 115, Char.ofNat 116, Char.ofNat 111, Char.ofNat 110, Char.ofNat 101, Char.ofNat 41, Char.ofNat 46, Char.ofNat 114, Char.ofNat 101, Char.ofNat 115, Char.ofNat 116], [Char.ofNat 40, Char.ofNat 108, Char.ofNat 111, Char.ofNat 111, Char.ofNat 112, Char.ofNat 46, Char.ofNat 101, Char.ofNat 120, Char.ofNat 97, Char.ofNat 109, Char.ofNat 112, Char.ofNat 108, Char.ofNat 101, Char.ofNat 47, Char.ofNat 99, Char.ofNat 111, Char.ofNat 110, Char.ofNat 102, Char.ofNat 108, Char.ofNat 117, Char.ofNat 101, Char.ofNat 110, Char.ofNat 99, Char.ofNat 101, Char.ofNat 47, Char.ofNat 105, Char.ofNat 109, Char.ofNat 112, Char.ofNat 108, Char.ofNat 46, Char.ofNat 118, Char.ofNat 97, Char.ofNat 108, Char.ofNat 117, Char.ofNat 101, Char.ofNat 41, Char.ofNat 46, Char.ofNat 105, Char.ofNat 110, Char.ofNat 116, Char.ofNat 111], [Char.ofNat 40, Char.ofNat 108, Char.ofNat 111, Char.ofNat 111, Char.ofNat 112, Char.ofNat 46, Char.ofNat 101, Char.ofNat 120, Char.ofNat 97, Char.ofNat 109, Char.ofNat 112, Char.ofNat 108, Char.ofNat 101, Char.ofNat 47, Char.ofNat 99, Char.ofNat 111, Char.ofNat 110, Char.ofNat 102, Char.ofNat 108, Char.ofNat 117, Char.ofNat 101, Char.ofNat 110, Char.ofNat 99, Char.ofNat 101, Char.ofNat 47, Char.ofNat 105, Char.ofNat 109, Char.ofNat 112, Char.ofNat 108, Char.ofNat 46, Char.ofNat 118, Char.ofNat 97, Char.ofNat 108, Char.ofNat 117, Char.ofNat 101, Char.ofNat 41, Char.ofNat 46, Char.ofNat 114, Char.ofNat 101, Char.ofNat 115, Char.ofNat 116], [Char.ofNat 40, Char.ofNat 105, Char.ofNat 110, Char.ofNat 116, Char.ofNat 101, Char.ofNat 114, Char.ofNat 110, Char.ofNat 97, Char.ofNat 108, Char.ofNat 47, Char.ofNat 97, Char.ofNat 98, Char.ofNat 105, Char.ofNat 46, Char.ofNat 75, Char.ofNat 105, Char.ofNat 110, Char.ofNat 100, Char.ofNat 41, Char.ofNat 46, Char.ofNat 83, Char.ofNat 116, Char.ofNat 114, Char.ofNat 105, Char.ofNat 110, Char.ofNat 103]]
set_option maxRecDepth 100000 in
theorem bare_is : (Tryz.prog.funcs.toList.filter fun fn => fn.body.isNone).map (·.name) = bareNames.map String.ofList := by kernel_rfl
theorem nameBytes_ofList (l : List Char) : nameBytes (String.ofList l) = l.flatMap String.utf8EncodeChar := by
  simp [nameBytes, List.utf8Encode, List.data_toByteArray]
theorem any_bare (l : List Func) (g : String → Bool) : (l.any fun fn => fn.body.isNone && g fn.name) = ((l.filter fun fn => fn.body.isNone).map (·.name)).any g := by
  rw [List.any_map, List.any_filter]
  rfl
/-- Whether a name opens so. -/
def opensSo (p : List UInt8) (l : List Char) : Bool := opensWith p (l.flatMap String.utf8EncodeChar)
theorem opens_ofList (p : List UInt8) (l : List Char) : opensWith p (nameBytes (String.ofList l)) = opensSo p l := by rw [nameBytes_ofList]; rfl
theorem lit_reflect : nameBytes "reflect." = [114, 101, 102, 108, 101, 99, 116, 46] := by kernel_rfl
theorem lit_reflect1 : nameBytes "(reflect." = [40, 114, 101, 102, 108, 101, 99, 116, 46] := by kernel_rfl
theorem lit_reflect2 : nameBytes "(*reflect." = [40, 42, 114, 101, 102, 108, 101, 99, 116, 46] := by kernel_rfl
theorem lit_door : nameBytes "var's door: " = [118, 97, 114, 39, 115, 32, 100, 111, 111, 114, 58, 32] := by kernel_rfl
set_option maxRecDepth 100000 in
theorem bears_not : Tryz.prog.bearsReflect = false := by
  unfold Program.bearsReflect
  rw [any_bare _ (fun s => opensWith (nameBytes "reflect.") (nameBytes s) || opensWith (nameBytes "(reflect.") (nameBytes s) || opensWith (nameBytes "(*reflect.") (nameBytes s)), bare_is, List.any_map]
  simp only [Function.comp_def, opens_ofList, lit_reflect, lit_reflect1, lit_reflect2]
  kernel_rfl
set_option maxRecDepth 100000 in
theorem doors_not : Tryz.prog.doorRows = [] := by
  unfold Program.doorRows
  rw [List.map_eq_nil_iff, List.filter_eq_nil_iff]
  have h : (Tryz.prog.funcs.toList.any fun fn => fn.body.isNone && opensWith (nameBytes "var's door: ") (nameBytes fn.name)) = false := by
    rw [any_bare _ (fun s => opensWith (nameBytes "var's door: ") (nameBytes s)), bare_is, List.any_map]
    simp only [Function.comp_def, opens_ofList, lit_door]
    kernel_rfl
  rw [List.any_eq_false] at h
  exact h
/-- What the doors ask, where there is none. -/
def doorless (l : List String) : Bool := (l.contains "ownunsafe" || !l.contains "libbeside") && (l.contains "libbeside" || !l.contains "ownbeside")
theorem door_fits : Tryz.prog.doorFits = doorless := by
  funext l
  unfold Program.doorFits doorless
  rw [doors_not]
  rfl
set_option maxRecDepth 100000 in
theorem lays_not : Tryz.prog.laysLater = false := by kernel_rfl
/-- The head's words behind the first. -/
def headRest : List (List Char) := (behindMainWord (wordsSigns headSigns)).tail
set_option maxRecDepth 100000 in
theorem head_words : behindMainWord (wordsSigns headSigns) = "cut".toList :: headRest := by kernel_rfl
set_option maxRecDepth 100000 in
theorem head_strip : stripLifts liftWords ("cut".toList :: headRest) = ([], "cut".toList :: headRest) := by kernel_rfl
theorem enter_of {P : Program} {l : List Char} {rest : List (List Char)} (h : P.initOrder.toList = l) (hw : behindMainWord (wordsSigns l) = "cut".toList :: rest)
    (hs : stripLifts liftWords ("cut".toList :: rest) = ([], "cut".toList :: rest)) (h1 : P.laysLater = false) (h2 : P.bearsReflect = false) (h3 : P.doorFits [] = true) : P.mayEnter = true := by
  unfold Program.mayEnter
  rw [h, hw]
  simp only [hs, h1, h2, h3]
  simp
theorem head_enter : Tryz.prog.mayEnter = true := enter_of head_signs head_words head_strip lays_not bears_not (by rw [door_fits]; rfl)
theorem make_of {P : Program} {l : List Char} {rest : List (List Char)} (h : P.initOrder.toList = l) (hw : behindMainWord (wordsSigns l) = "cut".toList :: rest) : P.make = some .cut := by
  unfold Program.make
  rw [h, hw]
  rfl
theorem head_make : Tryz.prog.make = some .cut := make_of head_signs head_words
set_option maxRecDepth 100000 in
theorem all_laid : laidOutB Tryz.prog = true := by kernel_rfl
set_option maxRecDepth 100000 in
theorem all_rowed : mapsRowed Tryz.prog = true := by kernel_rfl
set_option maxRecDepth 100000 in
theorem all_stops : Tryz.prog.stops = [] := by kernel_rfl
set_option maxRecDepth 100000 in
theorem all_knobs : Tryz.prog.stopKnobs = [] := by kernel_rfl
set_option maxRecDepth 100000 in
theorem all_heard : Tryz.prog.stopsHeard = true := by kernel_rfl
/-- A law's closed facts, with those of the whole program struck: what is left of them. -/
def factsLeft (P : Program) (f : FuncId) (fn : Func) (s : ChangeSpec) (c : OpenClaim) : Bool :=
  c.wf (OpenSpec.ofChange s) && true && true &&
  fn.params.all (P.readableRec ·) && namedTie P c.named s.vars &&
  (c.stops == []) && (([] : List String) == []) && (c.knobs == []) && (([] : List String) == []) &&
  (c.inPlace == P.inPlace f) && (c.unfollowed == P.unfollowed f) && (c.recurses == P.recurses f) && (c.named == P.varsNamed f) &&
  (c.maps == (fn.params.toList ++ s.plain.varTypes P).any (P.mapsRec ·)) && (c.ifaces == (fn.params.toList ++ s.plain.varTypes P).any (P.ifacesRec ·)) && (c.mapsOut == P.mapsAmong fn.resultTypes.toList) &&
  (c.loops == (fn.params.toList ++ s.plain.varTypes P).any (P.loopsFrom ·)) && (c.wideKeys == (fn.params.toList ++ s.plain.varTypes P ++ fn.resultTypes.toList).any (P.wideKeysFrom ·)) &&
  s.vars.all (P.varReadable ·) && fn.resultTypes.all (fun t => P.readableRec t && decide (t < P.types.size)) && (c.ifacesOut == fn.resultTypes.toList.any (P.ifacesRec ·)) && (c.loopsOut == fn.resultTypes.toList.any (P.loopsFrom ·)) && (c.plainKeys == P.plainKeys) && c.shortTexts.isNone && true && true && (c.lifted == false) && (some Make.cut == some c.make) && (c.kinds == (if c.domain.isEmpty then [] else fn.params.toList.map fun t => match P.underlying t with | some (.int k) => some k | _ => none)) && (c.pinned == c.pinnedBy) &&
  (c.veiled == (fn.params.toList ++ s.plain.varTypes P ++ fn.resultTypes.toList).any (P.veiledRec ·)) && c.veiledFits P fn.params.toList (fn.params.toList ++ s.plain.varTypes P ++ fn.resultTypes.toList)
set_option maxRecDepth 100000 in
theorem joined_any {P : Program} (hP : P.mayEnter = true) (hQ : P.liftsFinal = false) (hM : P.make = some .cut) (h1 : laidOutB P = true) (h2 : mapsRowed P = true) (h3 : P.stops = []) (h4 : P.stopKnobs = []) (h5 : P.stopsHeard = true)
    {f : FuncId} {fn : Func} {s : ChangeSpec} {c : OpenClaim} (h : factsLeft P f fn s c = true) : joinedFacts P f fn s c = true := by
  unfold joinedFacts
  rw [hP, hQ, hM, h1, h2, h3, h4, h5]
  exact h
theorem joined_of {f : FuncId} {fn : Func} {s : ChangeSpec} {c : OpenClaim} (h : factsLeft Tryz.prog f fn s c = true) : joinedFacts Tryz.prog f fn s c = true :=
  joined_any head_enter head_lifts head_make all_laid all_rowed all_stops all_knobs all_heard h
end Go.Proofs.YtjnloillcgeodaaGreat
/- Small facts on memory: a block that is known whole, and how it stays known. Of whatever program. -/
namespace Go.Proofs.YtjnloillcgeodaaGreat
open Go.RowKit Go.Joins

/-- Block g holds just these cells, of element type t, none of them frozen. -/
def Blk (w : World) (g : Nat) (t : TypeId) (cs : Array Value) : Prop := w.heap[g]? = some (.cells cs t (0, 0))

theorem hide {p : Prop} (h : p) : Hid p := h

section
variable {w w' : World} {g : Nat} {t : TypeId} {cs : Array Value}
theorem Blk.inside (h : Blk w g t cs) : g < w.heap.size := by
  apply Classical.byContradiction
  intro hn
  have : w.heap[g]? = none := Array.getElem?_eq_none (by omega)
  unfold Blk at h
  rw [this] at h
  cases h
theorem Blk.at (h : Blk w g t cs) (i : Nat) : w.cell? ⟨g, i, none⟩ = cs[i]? := cell_of_block h i
theorem Blk.loose (h : Blk w g t cs) (i : Nat) : w.frozen? ⟨g, i, none⟩ = false := unfrozen_of_block h i
theorem Blk.made (w : World) (t : TypeId) (cs : Array Value) : Blk (w.alloc (.cells cs t)) w.heap.size t cs := by
  show (w.heap.push _)[w.heap.size]? = _
  rw [Array.getElem?_push, if_pos rfl]
theorem Blk.more (h : Blk w g t cs) (o : Obj) : Blk (w.alloc o) g t cs := (Below.heap_alloc w o g h.inside).trans h
theorem Blk.past (h : Blk w g t cs) {B : Nat} (hb : Below B w w') (hg : g < B) : Blk w' g t cs := (hb.block g hg).trans h
theorem Blk.on (h : Blk w g t cs) (hb : Below w.heap.size w w') : Blk w' g t cs := h.past hb h.inside
theorem Blk.aside (h : Blk w g t cs) {p : Addr} (hp : g ≠ p.block) (u : Value) : Blk (w.setCell p u) g t cs := (Below.heap_setCell w p u g hp).trans h
theorem Blk.put (h : Blk w g t cs) (i : Nat) (u : Value) : Blk (w.setCell ⟨g, i, none⟩ u) g t (cs.setIfInBounds i u) := block_setCell h u
theorem Blk.kept (h : Blk w g t cs) {row : Option Nat} (hb : w.grownBy w' row) (hg : row ≠ some g) : Blk w' g t cs := (hb.block g h.inside (fun e => hg e.symm)).trans h
/-- A block of two cells, as rules for a walk. -/
theorem Blk.two {a b : Value} (h : Blk w g t #[a, b]) : w.cell? ⟨g, 0, none⟩ = some a ∧ w.cell? ⟨g, 1, none⟩ = some b ∧ w.frozen? ⟨g, 0, none⟩ = false ∧ w.frozen? ⟨g, 1, none⟩ = false := ⟨h.at 0, h.at 1, h.loose 0, h.loose 1⟩
theorem Blk.one {a : Value} (h : Blk w g t #[a]) : w.cell? ⟨g, 0, none⟩ = some a ∧ w.frozen? ⟨g, 0, none⟩ = false := ⟨h.at 0, h.loose 0⟩
theorem Blk.drew (h : Blk w g t cs) : Blk w.drew g t cs := h
end

/-- What a walk knows of memory between two calls: nothing older than the call has turned; these blocks, made by the call and numbered below n, are known whole. -/
structure Inv (w : World) (n : Nat) (bs : List (Nat × TypeId × Array Value)) (w' : World) : Prop where
  below : Below w.heap.size w w'
  room : n ≤ w'.heap.size
  blk : ∀ x ∈ bs, w.heap.size ≤ x.1 ∧ x.1 < n ∧ Blk w' x.1 x.2.1 x.2.2

section
variable {w w1 w2 : World} {n : Nat} {bs : List (Nat × TypeId × Array Value)}
theorem Inv.start (w : World) : Inv w w.heap.size [] w := ⟨Below.refl _ _, Nat.le_refl _, by simp⟩
theorem Inv.on (h : Inv w n bs w1) (hb : Below w1.heap.size w1 w2) : Inv w n bs w2 :=
  ⟨h.below.trans (hb.mono h.below.size), Nat.le_trans h.room hb.size, fun x hx => ⟨(h.blk x hx).1, (h.blk x hx).2.1, (h.blk x hx).2.2.on hb⟩⟩
theorem Inv.drew (h : Inv w n bs w1) : Inv w n bs w1.drew := ⟨h.below.drew, h.room, fun x hx => ⟨(h.blk x hx).1, (h.blk x hx).2.1, (h.blk x hx).2.2⟩⟩
theorem Inv.alloc (h : Inv w n bs w1) (o : Obj) : Inv w n bs (w1.alloc o) := h.on (below_alloc1 w1 o)
theorem Inv.set (h : Inv w n bs w1) {p : Addr} (hp : n ≤ p.block) (hw : w.heap.size ≤ p.block) (u : Value) : Inv w n bs (w1.setCell p u) :=
  ⟨h.below.setCell hw u, by simpa [World.setCell] using h.room, fun x hx => ⟨(h.blk x hx).1, (h.blk x hx).2.1, (h.blk x hx).2.2.aside (by have := (h.blk x hx).2.1; omega) u⟩⟩
theorem Inv.base (h : Inv w n bs w1) : w.heap.size ≤ w1.heap.size := h.below.size
/-- A boxed argument, a variable: a new block, known whole from now on. -/
theorem Inv.box (h : Inv w w1.heap.size bs w1) (t : TypeId) (cs : Array Value) : Inv w (w1.alloc (.cells cs t)).heap.size ((w1.heap.size, t, cs) :: bs) (w1.alloc (.cells cs t)) :=
  ⟨(h.alloc _).below, Nat.le_refl _, fun x hx => by
    rcases List.mem_cons.1 hx with rfl | hx
    · exact ⟨h.below.size, by simp, Blk.made _ _ _⟩
    · exact ⟨(h.blk x hx).1, by have := (h.blk x hx).2.1; simp; omega, (h.blk x hx).2.2.more _⟩⟩
/-- One block more is known. -/
theorem Inv.add (h : Inv w n bs w1) {g : Nat} {t : TypeId} {cs : Array Value} (hg : w.heap.size ≤ g) (hb : Blk w1 g t cs) : Inv w w1.heap.size ((g, t, cs) :: bs) w1 :=
  ⟨h.below, Nat.le_refl _, fun x hx => by
    rcases List.mem_cons.1 hx with rfl | hx
    · exact ⟨hg, hb.inside, hb⟩
    · exact ⟨(h.blk x hx).1, Nat.lt_of_lt_of_le (h.blk x hx).2.1 h.room, (h.blk x hx).2.2⟩⟩
theorem Inv.top (h : Inv w n bs w1) : Inv w w1.heap.size bs w1 :=
  ⟨h.below, Nat.le_refl _, fun x hx => ⟨(h.blk x hx).1, Nat.lt_of_lt_of_le (h.blk x hx).2.1 h.room, (h.blk x hx).2.2⟩⟩
theorem Inv.get (h : Inv w n bs w1) {g : Nat} {t : TypeId} {cs : Array Value} (hx : (g, t, cs) ∈ bs) : Blk w1 g t cs := (h.blk _ hx).2.2
/-- The newest block holds something else. -/
theorem Inv.swap {o o' : Obj} (h : Inv w n bs (w1.alloc o)) (hn : n ≤ w1.heap.size) (hw : w.heap.size ≤ w1.heap.size) : Inv w n bs (w1.alloc o') := by
  have hb : Below w1.heap.size (w1.alloc o) (w1.alloc o') := ⟨rfl, rfl, rfl, by simp, fun k hk => (Below.heap_alloc w1 o' k hk).trans (Below.heap_alloc w1 o k hk).symm⟩
  refine ⟨h.below.trans (hb.mono hw), by simp; omega, fun x hx => ⟨(h.blk x hx).1, (h.blk x hx).2.1, (h.blk x hx).2.2.past hb ?_⟩⟩
  have := (h.blk x hx).2.1
  omega
theorem Inv.sub (h : Inv w n bs w1) {bs' : List (Nat × TypeId × Array Value)} (hs : ∀ x ∈ bs', x ∈ bs) : Inv w n bs' w1 := ⟨h.below, h.room, fun x hx => h.blk x (hs x hx)⟩
theorem Inv.nth (h : Inv w n bs w1) {g : Nat} {t : TypeId} {cs : Array Value} (i : Nat) (hx : bs[i]? = some (g, t, cs)) : Blk w1 g t cs := h.get (List.mem_of_getElem? hx)
end
theorem grown_none {w w' : World} {row : Option Nat} (h : Below w.heap.size w w') : w.grownBy w' row := ⟨h.os, h.tape, h.output, h.size, fun i hi _ => h.block i hi⟩
end Go.Proofs.YtjnloillcgeodaaGreat
/- Moves in a region that draws its order, one by one: an operation that yields in every world that meets S is taken first; one whose guard says no is passed over. Of whatever program. -/
namespace Go.Proofs.YtjnloillcgeodaaGreat
open Go.RowKit

section
variable {P : Program} {ops : Array Oper} {Q : Exit → Act → World → Prop} {md : Region.Mode} {S : World → Prop}
theorem take_run (i : Nat) (d : Option Tmp) {oi : Oper} {v : Value} {fuel : Nat} {listed : Array Bool} {a : Act} {w : World} (hi : ops[i]? = some oi) (hd : oi.dst = d)
    (hs : Region.noSelect ops = true) (hf : Region.free md ops listed i = true) (hr : (Region.ready md ops listed).contains i = true)
    (hQ : ∀ c a w, Q (.panic c) (a.put d v) w → Q (.panic c) a w) (hw : Region.wanted oi (yielded ops a.tmps) = true)
    (hy : ∀ w, S w → (execOp a.eval oi).run P w = .ok (.value v) w) (hS : S w)
    (h : wpAnyH P md ops Q S fuel (listed.setIfInBounds i true) (a.put d v) w) : wpAnyH P md ops Q S (fuel + 1) listed a w := by
  subst hd
  exact wpAnyH_take hi hs hf hr hQ (Or.inl ⟨hw, hy⟩) hS h
theorem take_skip (i : Nat) (d : Option Tmp) {oi : Oper} {fuel : Nat} {listed : Array Bool} {a : Act} {w : World} (hi : ops[i]? = some oi) (hd : oi.dst = d)
    (hs : Region.noSelect ops = true) (hf : Region.free md ops listed i = true) (hr : (Region.ready md ops listed).contains i = true)
    (hQ : ∀ c a w, Q (.panic c) (a.put d undef) w → Q (.panic c) a w) (hw : Region.wanted oi (yielded ops a.tmps) = false) (hS : S w)
    (h : wpAnyH P md ops Q S fuel (listed.setIfInBounds i true) (a.put d undef) w) : wpAnyH P md ops Q S (fuel + 1) listed a w := by
  subst hd
  exact wpAnyH_take hi hs hf hr hQ (Or.inr ⟨hw, rfl⟩) hS h
/-- The one operation that may come up now. -/
theorem take_one (i : Nat) {o : Oper} {fuel : Nat} {listed : Array Bool} {a : Act} {w : World} (hr : Region.ready md ops listed = [i]) (ho : ops[i]? = some o)
    (h : ∀ K' : Act → World → Prop, Shut (∀ a w, S w → (S w → wpAnyH P md ops Q S fuel (listed.setIfInBounds i true) a w) → K' a w) → if Region.wanted o (yielded ops a.tmps) = true then Oper.wp P o a w K' Q else K' (a.put o.dst undef) w) :
    wpAnyH P md ops Q S (fuel + 1) listed a w :=
  wpAnyH_ready hr (by simp) (AllReadyH.cons ho h AllReadyH.nil)
end
end Go.Proofs.YtjnloillcgeodaaGreat
/- Contracts of the small functions on tags (plain integers and struct values), over the translation of this seat: no condition on the arguments. -/
namespace Go.Proofs.YtjnloillcgeodaaGreat
open Go.RowKit

/-- Whether a tag is valid: the zero tag, or a time and a place within bounds. -/
def okB (t p : Int) : Bool := decide (t = 0 ∧ p = 0 ∨ 1 ≤ t ∧ t ≤ 999 ∧ 0 ≤ p ∧ p ≤ 2)
/-- Whether the first tag is earlier. -/
def lessB (t p t' p' : Int) : Bool := decide (t < t' ∨ t = t' ∧ p < p')

theorem ret_bool {a b : Bool} (h : a = b) : Ending.returned (.bool a) = .returned (.bool b) := by rw [h]
theorem ret_int {k : IntKind} {a b : Int} (h : a = b) : Ending.returned (.int k a) = .returned (.int k b) := by rw [h]

theorem okB_i {t p : Int} (h : okB t p = true) : t = 0 ∧ p = 0 ∨ 1 ≤ t ∧ t ≤ 999 ∧ 0 ≤ p ∧ p ≤ 2 := of_decide_eq_true h
set_option maxHeartbeats 400000 in
theorem l1In_any (n lo hi : Int) (w : World) :
    Calls Tryz.prog 37 #[.int .i64 n, .int .i64 lo, .int .i64 hi] w fun e w' => e = .returned (.bool (decide (lo ≤ n ∧ n ≤ hi))) ∧ w = w' := by
  by_cases h1 : lo ≤ n
  · by_cases h2 : n ≤ hi
    · go_enter Tryz.func37, Tryz.ntmps37
      go_wp2
      go_ret
      exact ⟨ret_bool (by simp; omega), rfl⟩
    · go_enter Tryz.func37, Tryz.ntmps37
      go_wp2
      go_ret
      exact ⟨ret_bool (by simp; omega), rfl⟩
  · go_enter Tryz.func37, Tryz.ntmps37
    go_wp2
    go_ret
    exact ⟨ret_bool (by simp; omega), rfl⟩

set_option maxHeartbeats 400000 in
theorem isNaN_any (a : Int) (w : World) :
    Calls Tryz.prog 134 #[.int .i64 a] w fun e w' => e = .returned (.bool false) ∧ w = w' := by
  have h : (a != a) = false := by simp
  go_enter Tryz.func134, Tryz.ntmps134
  go_wp2
  go_ret
  exact ⟨rfl, rfl⟩

/-- How two numbers compare: less, alike, more. -/
def cmpI (a b : Int) : Int := if a < b then -1 else if b < a then 1 else 0
set_option maxHeartbeats 1000000 in
theorem cmpInt_any (a b : Int) (w : World) :
    Calls Tryz.prog 97 #[.int .i64 a, .int .i64 b] w fun e w' => e = .returned (.int .i64 (cmpI a b)) ∧ w = w' := by
  have H : Hid (cmpI a b = if a < b then -1 else if b < a then 1 else 0) := rfl
  go_enter Tryz.func97, Tryz.ntmps97
  go_wp2_with (go_at_call 134; refine (isNaN_any _ _).mono ?_; rintro e w' ⟨rfl, rfl⟩)
  all_goals
    go_ret
    refine ⟨ret_int ?_, rfl⟩
    rw [H.out]
    first | (rw [if_pos (by omega)]) | (rw [if_neg (by omega), if_pos (by omega)]) | (rw [if_neg (by omega), if_neg (by omega)])

/-- The first number that is not zero. -/
def orI (a b : Int) : Int := if a = 0 then b else a
theorem orI_z {a b : Int} (h : a = 0) : orI a b = b := if_pos h
theorem orI_n {a b : Int} (h : ¬ a = 0) : orI a b = a := if_neg h
/-- How far a look at two numbers has come. -/
def OrAt (a b k : Int) : Prop := k = 0 ∨ k = 1 ∧ a = 0 ∨ k = 2 ∧ a = 0 ∧ b = 0
set_option maxRecDepth 100000 in
set_option maxHeartbeats 1000000 in
theorem cmpOr_two (g c : Nat) (a b : Int) (w : World) (h0 : w.cell? ⟨g, 0, none⟩ = some (.int .i64 a)) (h1 : w.cell? ⟨g, 1, none⟩ = some (.int .i64 b)) :
    Calls Tryz.prog 96 #[.slice (some ⟨g, 0, none⟩) 2 c] w fun e w' => e = .returned (.int .i64 (orI a b)) ∧ w = w' := by
  go_enter Tryz.func96, Tryz.ntmps96
  go_wp2
  go_loop [8] (fun i => ∃ k : Int, i = .int .i64 k ∧ OrAt a b k) (fun i => 2 - (intOf i).toNat)
  case atStart => exact ⟨0, rfl, .inl rfl⟩
  case round =>
    obtain ⟨k, rfl, hk⟩ := hrel
    rcases hk with rfl | ⟨rfl, ha⟩ | ⟨rfl, ha, hb⟩
    · by_cases ha : a = 0
      · have hn : (a != 0) = false := by simpa using ha
        have HA := hide ha
        clear ha
        go_wp2
        exact ⟨⟨1, rfl, .inr (.inl ⟨rfl, HA.out⟩)⟩, by simp [intOf]⟩
      · have hn : (a != 0) = true := by simpa using ha
        have HA := hide ha
        clear ha
        go_wp2
        go_ret
        exact ⟨ret_int (orI_n HA.out).symm, rfl⟩
    · have HA := hide ha
      clear ha
      by_cases hb : b = 0
      · have hn : (b != 0) = false := by simpa using hb
        have HB := hide hb
        clear hb
        go_wp2
        exact ⟨⟨2, rfl, .inr (.inr ⟨rfl, HA.out, HB.out⟩)⟩, by simp [intOf]⟩
      · have hn : (b != 0) = true := by simpa using hb
        clear hb
        go_wp2
        go_ret
        exact ⟨ret_int (orI_z HA.out).symm, rfl⟩
    · have HA := hide ha
      have HB := hide hb
      clear ha hb
      go_wp2
      go_ret
      exact ⟨ret_int (by rw [orI_z HA.out, HB.out]), rfl⟩

/-- How two tags compare. -/
def cmpT (t p t' p' : Int) : Int := orI (cmpI t t') (cmpI p p')
theorem cmpT_less (t p t' p' : Int) : decide (cmpT t p t' p' < 0) = lessB t p t' p' := by
  unfold cmpT orI cmpI lessB
  rw [Bool.eq_iff_iff]
  simp only [decide_eq_true_eq]
  repeat' split
  all_goals omega

set_option maxRecDepth 100000 in
set_option maxHeartbeats 2000000 in
theorem compare_any (t p t' p' : Int) (w : World) :
    Calls Tryz.prog 79 #[.agg #[.int .i64 t, .int .i64 p], .agg #[.int .i64 t', .int .i64 p']] w fun e w' => e = .returned (.int .i64 (cmpT t p t' p')) ∧ Below w.heap.size w w' := by
  have S0 := ((Inv.start w).box 49 #[.int .i64 t, .int .i64 p]).box 49 #[.int .i64 t', .int .i64 p']
  simp only [World.size_alloc] at S0
  go_enter Tryz.func79, Tryz.ntmps79
  go_wp2_with fail
  generalize (w.alloc (.cells #[.int .i64 t, .int .i64 p] 49)).alloc (.cells #[.int .i64 t', .int .i64 p'] 49) = W at S0 ⊢
  refine wp_region_noPanic ?_
  refine wp_region_held_drew (S := (fun w' => w'.cell? ⟨w.heap.size, 0, none⟩ = some (.int .i64 t) ∧ w'.cell? ⟨w.heap.size, 1, none⟩ = some (.int .i64 p) ∧ w'.cell? ⟨w.heap.size + 1, 0, none⟩ = some (.int .i64 t') ∧ w'.cell? ⟨w.heap.size + 1, 1, none⟩ = some (.int .i64 p') ∧ Inv w (w.heap.size + 1 + 1) [(w.heap.size + 1, 49, #[.int .i64 t', .int .i64 p']), (w.heap.size, 49, #[.int .i64 t, .int .i64 p])] w')) (by kernel_rfl) (by exact ⟨(S0.nth 1 rfl).at 0, (S0.nth 1 rfl).at 1, (S0.nth 0 rfl).at 0, (S0.nth 0 rfl).at 1, S0.drew⟩) (fun hHeld => ?_)
  refine take_run 0 (some 5) (v := ?_) rfl rfl (by kernel_rfl) (by kernel_rfl) (by kernel_rfl) (fun _ _ _ h => h) (by rfl) ?_ hHeld ?_
  rotate_left
  · ((intro w hSw); (try dsimp only at hSw); go_simp <;> with_reducible rfl)
  simp only [Act.put, List.setIfInBounds_toArray, List.set_cons_zero, List.set_cons_succ]
  refine take_run 1 (some 6) (v := ?_) rfl rfl (by kernel_rfl) (by kernel_rfl) (by kernel_rfl) (fun _ _ _ h => h) (by rfl) ?_ hHeld ?_
  rotate_left
  · ((intro w hSw); (try dsimp only at hSw); go_simp <;> with_reducible rfl)
  simp only [Act.put, List.setIfInBounds_toArray, List.set_cons_zero, List.set_cons_succ]
  refine take_run 2 (some 7) (v := ?_) rfl rfl (by kernel_rfl) (by kernel_rfl) (by kernel_rfl) (fun _ _ _ h => h) (by rfl) ?_ hHeld ?_
  rotate_left
  · ((intro w hSw); (try dsimp only at hSw); go_simp <;> with_reducible rfl)
  simp only [Act.put, List.setIfInBounds_toArray, List.set_cons_zero, List.set_cons_succ]
  refine take_run 3 (some 8) (v := ?_) rfl rfl (by kernel_rfl) (by kernel_rfl) (by kernel_rfl) (fun _ _ _ h => h) (by rfl) ?_ hHeld ?_
  rotate_left
  · ((intro w hSw); (try dsimp only at hSw); go_simp <;> with_reducible rfl)
  simp only [Act.put, List.setIfInBounds_toArray, List.set_cons_zero, List.set_cons_succ]
  refine take_run 5 (some 10) (v := ?_) rfl rfl (by kernel_rfl) (by kernel_rfl) (by kernel_rfl) (fun _ _ _ h => h) (by rfl) ?_ hHeld ?_
  rotate_left
  · ((intro w hSw); (try dsimp only at hSw); go_simp <;> with_reducible rfl)
  simp only [Act.put, List.setIfInBounds_toArray, List.set_cons_zero, List.set_cons_succ]
  refine take_run 6 (some 11) (v := ?_) rfl rfl (by kernel_rfl) (by kernel_rfl) (by kernel_rfl) (fun _ _ _ h => h) (by rfl) ?_ hHeld ?_
  rotate_left
  · ((intro w hSw); (try dsimp only at hSw); go_simp <;> with_reducible rfl)
  simp only [Act.put, List.setIfInBounds_toArray, List.set_cons_zero, List.set_cons_succ]
  refine take_run 7 (some 12) (v := ?_) rfl rfl (by kernel_rfl) (by kernel_rfl) (by kernel_rfl) (fun _ _ _ h => h) (by rfl) ?_ hHeld ?_
  rotate_left
  · ((intro w hSw); (try dsimp only at hSw); go_simp <;> with_reducible rfl)
  simp only [Act.put, List.setIfInBounds_toArray, List.set_cons_zero, List.set_cons_succ]
  refine take_run 8 (some 13) (v := ?_) rfl rfl (by kernel_rfl) (by kernel_rfl) (by kernel_rfl) (fun _ _ _ h => h) (by rfl) ?_ hHeld ?_
  rotate_left
  · ((intro w hSw); (try dsimp only at hSw); go_simp <;> with_reducible rfl)
  simp only [Act.put, List.setIfInBounds_toArray, List.set_cons_zero, List.set_cons_succ]
  refine take_one 4 (by kernel_rfl) rfl (fun K hK => ?_)
  go_simp
  (refine (cmpInt_any _ _ _).mono ?_; rintro e w1 ⟨rfl, rfl⟩)
  try go_wp2_with fail
  refine hK.out _ _ (by exact hHeld) (fun hHeld => ?_)
  clear hK K
  refine take_one 9 (by kernel_rfl) rfl (fun K hK => ?_)
  go_simp
  (refine (cmpInt_any _ _ _).mono ?_; rintro e w1 ⟨rfl, rfl⟩)
  try go_wp2_with fail
  refine hK.out _ _ (by exact hHeld) (fun hHeld => ?_)
  clear hK K
  refine take_one 10 (by kernel_rfl) rfl (fun K hK => ?_)
  go_simp
  refine hK.out _ _ (by exact ⟨((hHeld.2.2.2.2.alloc _).nth 1 rfl).at 0, ((hHeld.2.2.2.2.alloc _).nth 1 rfl).at 1, ((hHeld.2.2.2.2.alloc _).nth 0 rfl).at 0, ((hHeld.2.2.2.2.alloc _).nth 0 rfl).at 1, hHeld.2.2.2.2.alloc _⟩) (fun hHeld => ?_)
  clear hK K
  refine take_one 11 (by kernel_rfl) rfl (fun K hK => ?_)
  go_simp
  (refine (cmpOr_two _ _ (cmpI t t') (cmpI p p') _ (Blk.made _ _ _).drew.two.1 (Blk.made _ _ _).drew.two.2.1).mono ?_; rintro e w1 ⟨rfl, rfl⟩)
  try go_wp2_with fail
  refine hK.out _ _ (by exact hHeld) (fun hHeld => ?_)
  clear hK K
  refine take_run 12 (some 4) (v := ?_) rfl rfl (by kernel_rfl) (by kernel_rfl) (by kernel_rfl) (fun _ _ _ h => h) (by rfl) ?_ hHeld ?_
  rotate_left
  · ((intro w hSw); (try dsimp only at hSw); go_simp <;> with_reducible rfl)
  simp only [Act.put, List.setIfInBounds_toArray, List.set_cons_zero, List.set_cons_succ]
  refine wpAnyH_done (by kernel_rfl) ?_ _
  refine NoPanic.normal ?_
  have L := hHeld.2.2.2.2.below
  clear hHeld
  go_wp2
  go_ret
  exact ⟨rfl, L⟩

set_option maxHeartbeats 400000 in
theorem less_any (t p t' p' : Int) (w : World) :
    Calls Tryz.prog 52 #[.agg #[.int .i64 t, .int .i64 p], .agg #[.int .i64 t', .int .i64 p']] w fun e w' => e = .returned (.bool (lessB t p t' p')) ∧ Below w.heap.size w w' := by
  have S0 := ((Inv.start w).box 49 #[.int .i64 t, .int .i64 p]).box 49 #[.int .i64 t', .int .i64 p']
  have H := hide (cmpT_less t p t' p')
  go_enter Tryz.func52, Tryz.ntmps52
  go_wp2_with fail
  refine (compare_any _ _ _ _ _).mono ?_
  rintro e w1 ⟨rfl, hb⟩
  have hl := (S0.on hb).below
  clear S0 hb
  generalize cmpT t p t' p' = x at H ⊢
  go_wp2
  go_ret
  exact ⟨ret_bool H.out, hl⟩

set_option maxHeartbeats 400000 in
theorem implTagLess_any (t p t' p' : Int) (w : World) :
    Calls Tryz.prog 23 #[.agg #[.int .i64 t, .int .i64 p], .agg #[.int .i64 t', .int .i64 p']] w fun e w' => e = .returned (.bool (lessB t p t' p')) ∧ Below w.heap.size w w' := by
  go_enter Tryz.func23, Tryz.ntmps23
  go_wp2_with (go_at_call 52; refine (less_any _ _ _ _ _).mono ?_; rintro e w1 ⟨rfl, hb⟩)
  go_ret
  exact ⟨rfl, (((Below.refl _ _).alloc (Nat.le_refl _) _).alloc (by simp) _).trans (hb.mono (by simp; omega))⟩

set_option maxHeartbeats 400000 in
theorem l1Less_any (t p t' p' : Int) (w : World) :
    Calls Tryz.prog 101 #[.agg #[.int .i64 t, .int .i64 p], .agg #[.int .i64 t', .int .i64 p']] w fun e w' => e = .returned (.bool (lessB t p t' p')) ∧ Below w.heap.size w w' := by
  have hl : lessB t p t' p' = (decide (t < t') || (decide (t = t') && decide (p < p'))) := by unfold lessB; simp
  have H : Hid (lessB t p t' p' = (decide (t < t') || (decide (t = t') && decide (p < p')))) := hl
  clear hl
  by_cases h1 : t < t'
  · go_enter Tryz.func101, Tryz.ntmps101
    go_wp2
    go_ret
    exact ⟨ret_bool (by rw [H.out]; simp [h1]), ((Below.refl _ _).alloc (Nat.le_refl _) _).alloc (by simp) _⟩
  · by_cases h2 : t = t'
    · subst h2
      go_enter Tryz.func101, Tryz.ntmps101
      go_wp2
      go_ret
      exact ⟨ret_bool (by rw [H.out]; simp), ((Below.refl _ _).alloc (Nat.le_refl _) _).alloc (by simp) _⟩
    · have h3 : (t == t') = false := by simpa using h2
      go_enter Tryz.func101, Tryz.ntmps101
      go_wp2
      go_ret
      exact ⟨ret_bool (by rw [H.out]; simp; omega), ((Below.refl _ _).alloc (Nat.le_refl _) _).alloc (by simp) _⟩

set_option maxHeartbeats 400000 in
theorem implTagOk_any (t p : Int) (w : World) :
    Calls Tryz.prog 77 #[.agg #[.int .i64 t, .int .i64 p]] w fun e w' => e = .returned (.bool (okB t p)) ∧ Below w.heap.size w w' := by
  go_enter Tryz.func77, Tryz.ntmps77
  go_wp2
  all_goals
    go_ret
    refine ⟨ret_bool ?_, (Below.refl _ _).alloc (Nat.le_refl _) _⟩
    symm
    unfold okB
    rw [Bool.eq_iff_iff]
    simp
    try omega

set_option maxHeartbeats 400000 in
theorem l1TagOk_any (t p : Int) (w : World) :
    Calls Tryz.prog 99 #[.agg #[.int .i64 t, .int .i64 p]] w fun e w' => e = .returned (.bool (okB t p)) ∧ Below w.heap.size w w' := by
  go_enter Tryz.func99, Tryz.ntmps99
  go_wp2
  all_goals
    go_ret
    refine ⟨ret_bool ?_, (Below.refl _ _).alloc (Nat.le_refl _) _⟩
    symm
    unfold okB
    rw [Bool.eq_iff_iff]
    simp
    try omega

/-- The later one of two tags: its time, its place. -/
def mxT (t p t' p' : Int) : Int := if lessB t p t' p' = true then t' else t
def mxP (t p t' p' : Int) : Int := if lessB t p t' p' = true then p' else p

/-- Whether two tags are the same. -/
def eqB (t p t' p' : Int) : Bool := decide (t = t' ∧ p = p')
theorem eqB_same (t p : Int) : eqB t p t p = true := decide_eq_true ⟨rfl, rfl⟩

end Go.Proofs.YtjnloillcgeodaaGreat
/- Contracts of the laws' small functions on slices of tags: their size, their copy, whether two are the same. Condition: at most 1048576 tags where memory is made. -/
namespace Go.Proofs.YtjnloillcgeodaaGreat
open Go.RowKit Go.Joins

/-- The two cells of a tag at place i of a row of cells. -/
def TagAt (cur : Array Value) (i : Nat) (x : Int × Int) : Prop := cur[i * 2]? = some (.int .i64 x.1) ∧ cur[i * 2 + 1]? = some (.int .i64 x.2)

theorem tagAt_put {cur : Array Value} {k : Nat} {x : Int × Int} (h : k * 2 + 1 < cur.size) : TagAt ((cur.setIfInBounds (k * 2) (.int .i64 x.1)).setIfInBounds (k * 2 + 1) (.int .i64 x.2)) k x := by
  refine ⟨?_, ?_⟩
  · rw [Array.getElem?_setIfInBounds_ne (by omega), Array.getElem?_setIfInBounds_self_of_lt (by omega)]
  · rw [Array.getElem?_setIfInBounds_self_of_lt (by simp; omega)]
theorem tagAt_other {cur : Array Value} {j k : Nat} {x : Int × Int} {a b : Value} (hj : j ≠ k) (h : TagAt cur j x) : TagAt ((cur.setIfInBounds (k * 2) a).setIfInBounds (k * 2 + 1) b) j x := by
  refine ⟨?_, ?_⟩
  · rw [Array.getElem?_setIfInBounds_ne (by omega), Array.getElem?_setIfInBounds_ne (by omega)]
    exact h.1
  · rw [Array.getElem?_setIfInBounds_ne (by omega), Array.getElem?_setIfInBounds_ne (by omega)]
    exact h.2
/-- One tag more is in its place. -/
theorem tagAt_step {cur : Array Value} {k : Nat} {ts : List (Int × Int)} {y : Int × Int} (h : k * 2 + 1 < cur.size) (hy : ts[k]? = some y) (hc : ∀ j x, j < k → ts[j]? = some x → TagAt cur j x) :
    ∀ j x, j < k + 1 → ts[j]? = some x → TagAt ((cur.setIfInBounds (k * 2) (.int .i64 y.1)).setIfInBounds (k * 2 + 1) (.int .i64 y.2)) j x := by
  intro j x hj hx
  by_cases e : j = k
  · subst e
    rw [hy] at hx
    injection hx with hx
    subst hx
    exact tagAt_put h
  · exact tagAt_other e (hc j x (by omega) hx)

/-- A slice that reads as these tags, in old memory (below block B). -/
def Tg (w : World) (B : Nat) (a : Option Addr) (ts : List (Int × Int)) : Prop :=
  ts = [] ∨ ∃ b off : Nat, a = some ⟨b, off, none⟩ ∧ b < B ∧ ∀ i x, ts[i]? = some x → w.cell? ⟨b, off + i * 2, none⟩ = some (.int .i64 x.1) ∧ w.cell? ⟨b, off + i * 2 + 1, none⟩ = some (.int .i64 x.2)
theorem Tg.keep {w w' : World} {B : Nat} {a : Option Addr} {ts : List (Int × Int)} (h : Tg w B a ts) (hk : ∀ p : Addr, p.block < B → w'.cell? p = w.cell? p) : Tg w' B a ts := by
  rcases h with h | ⟨b, off, ha, hb, hx⟩
  · exact .inl h
  · exact .inr ⟨b, off, ha, hb, fun i x hi => ⟨(hk ⟨b, off + i * 2, none⟩ hb).trans (hx i x hi).1, (hk ⟨b, off + i * 2 + 1, none⟩ hb).trans (hx i x hi).2⟩⟩
theorem Tg.on {w w' : World} {B : Nat} {a : Option Addr} {ts : List (Int × Int)} (h : Tg w B a ts) (hb : Below B w w') : Tg w' B a ts := h.keep fun _ hp => hb.cell hp
theorem Tg.up {w : World} {B B' : Nat} {a : Option Addr} {ts : List (Int × Int)} (h : Tg w B a ts) (hB : B ≤ B') : Tg w B' a ts := by
  rcases h with h | ⟨b, off, ha, hb, hx⟩
  · exact .inl h
  · exact .inr ⟨b, off, ha, by omega, hx⟩
theorem Tg.of {w : World} {B g : Nat} {T : TypeId} {cur : Array Value} {ts : List (Int × Int)} (hb : Blk w g T cur) (hg : g < B) (h : ∀ i x, ts[i]? = some x → TagAt cur i x) : Tg w B (some ⟨g, 0, none⟩) ts :=
  .inr ⟨g, 0, rfl, hg, fun i x hi => by
    have := h i x hi
    exact ⟨by rw [Nat.zero_add, hb.at]; exact this.1, by rw [Nat.zero_add, hb.at]; exact this.2⟩⟩

theorem tag_info : (Tryz.prog.info? 49).map (fun i => (i.zero, i.size, i.bytes)) = some (some (.agg #[.int .i64 0, .int .i64 0]), 2, 16) := by kernel_rfl

/-- What toTagS leaves: the tags in a new block of its own. -/
def CopiedS (w : World) (ts : List (Int × Int)) (e : Ending) (w' : World) : Prop :=
  ∃ (g : Nat) (cur : Array Value), e = .returned (.slice (some ⟨g, 0, none⟩) ts.length ts.length) ∧ w.heap.size ≤ g ∧ Blk w' g 49 cur ∧ cur.size = ts.length * 2 ∧ (∀ i x, ts[i]? = some x → TagAt cur i x) ∧ Below w.heap.size w w'

/-- What toPast leaves. -/
def CopiedP (w : World) (ts : List (Int × Int)) (e : Ending) (w' : World) : Prop :=
  ∃ (g : Nat) (cur : Array Value), e = .returned (.agg #[.slice (some ⟨g, 0, none⟩) ts.length ts.length]) ∧ w.heap.size ≤ g ∧ Blk w' g 49 cur ∧ cur.size = ts.length * 2 ∧ (∀ i x, ts[i]? = some x → TagAt cur i x) ∧ Below w.heap.size w w'

theorem take_eq_step {ts us : List (Int × Int)} {k : Nat} {x y : Int × Int} (hx : ts[k]? = some x) (hy : us[k]? = some y) (h : ts.take k = us.take k) (hxy : x = y) : ts.take (k + 1) = us.take (k + 1) := by
  rw [List.take_add_one, List.take_add_one, h, hx, hy, hxy]

end Go.Proofs.YtjnloillcgeodaaGreat
/- How a law's contract becomes the law's row: the program's closed facts, and that what was read before a call reads the same behind it where nothing old has turned. -/
namespace Go.Proofs.YtjnloillcgeodaaGreat
open Go.ChangeShapes Go.WideShapes Go.ChangeAt Go.RowKit Go.Joins

set_option maxRecDepth 100000 in
theorem own : ownKnob Tryz.prog.godebug = none := by kernel_rfl
set_option maxRecDepth 100000 in
theorem laidOut : laidOutB Tryz.prog = true := all_laid

set_option maxRecDepth 100000 in
/-- All arguments read behind the call as they did before it, if below the old heap nothing has turned. -/
theorem stay_all {H : Type} {enc : TypeId × Value → H} {W W' : World} (hb : Below W.heap.size W W') :
    ∀ {ts : List TypeId} {vs : List Value} {ds : List (DataW H)} {ps : List MemPlace},
      (∀ t ∈ ts, Tryz.prog.readableRec t = true ∧ t < Tryz.prog.types.size) → DataW.TrodAll enc Tryz.prog W 0 (fun _ => true) true ts vs ds ps →
      DataW.TrodAll enc Tryz.prog W' 0 (fun b => decide (b < W.heap.size)) true ts vs ds ps
  | [], vs, ds, ps, _, h => by
    obtain ⟨rfl, rfl, rfl⟩ := trodAll_nil h
    exact trodAll_mk0
  | t :: ts, vs, ds, ps, hr, h => by
    obtain ⟨v, vs', d, ds', p, q, rfl, rfl, rfl, h0, hs⟩ := trodAll_cons h
    have lt0 : ∀ x ∈ p, x.block < W.heap.size := by obtain ⟨m, hm⟩ := h0; exact DataW.trod_lt m _ _ _ hm
    exact trodAll_cons_mk (Below.trod laidOut (hr t (by simp)).1 (hr t (by simp)).2 h0 hb lt0) (stay_all hb (fun t' ht' => hr t' (by simp [ht'])) hs)

end Go.Proofs.YtjnloillcgeodaaGreat
