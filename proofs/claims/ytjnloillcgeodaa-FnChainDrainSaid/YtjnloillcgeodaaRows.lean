/-
  No cell of these rows narrows 'for every input' (looked for: loops, veiled, ifaces, maps, wideKeys, modest, calm, conditions, laid).
  DERIVED. THE GIVEN ROWS OF THIS SEAT. 4 by the template 'for every input the law returns true; each argument reads behind the call as it read before'; 0 by the template 'total and deterministic' (their statements: YtjnloillcgeodaaTotals.lean).
  GIVEN WITH THE SEED: the statements are not yours to turn. If you find one false, say at which input.
  Laid BY PROGRAM, IN A SANDBOX (cutbox-rows.mjs): the forced cells as the released guide's own fill.sh prints them over the translation 589c75fdebddfc9e… (all of the seat's roots in one cut). By AI agents, Wed Nov 11 2026. No macro, syntax, notation, axiom, sorry.
-/
import Derived.Test.YtjnloillcgeodaaChecked
import GoSem.Claim
import GoSem.ClaimJoined
import GoSem.ClaimMapViews
import Derived.JoinedTies
import Derived.KernelRfl
namespace Go.Proofs.Ytjnloillcgeodaa
/- THE CELL 'sum', in the pinned program and in every row, IS THE sha256 OF THE DUMP (.gsa) THAT YtjnloillcgeodaaProg.lean LOADS. Nothing in Lean hashes anything: it is a label: what it is worth is what the hold of that sum in a sandbox is worth. -/
noncomputable def Try.pinned : Pinned := { name := "ytjnloillcgeodaa", sum := "589c75fdebddfc9e5ff62fd384c2c253d609541b06c425a6a810a4ce6c9d7b69", checked := Try.checked }
namespace Rows
def none {H : Type} : Left H := { results := [], args := [] }

/-- 'laws.FnChainPut': WHATEVER THE INPUT: true; the input reads as it did. -/
def fnChainPutSpec : ChangeSpec := { name := "fnChainPut", fn := fun _ => fun
  | [d] => { results := [.lit (.bool true)], args := [d] }
  | _ => none }
def fnChainPutRow : OpenClaim := { program := "ytjnloillcgeodaa", sum := "589c75fdebddfc9e5ff62fd384c2c253d609541b06c425a6a810a4ce6c9d7b69", func := "loop.example/confluence/laws.FnChainPut", spec := "fnChainPut", unfollowed := true, recurses := true, apart := false }
def FnChainPutSaid : Prop := fnChainPutRow.holds Try.pinned (OpenSpec.ofChange fnChainPutSpec)

/-- ITS FALSE NEIGHBOUR: 'it returns false'. Refute it at one input. -/
def fnChainPutWrong : ChangeSpec := { name := "fnChainPut", fn := fun _ => fun
  | [d] => { results := [.lit (.bool false)], args := [d] }
  | _ => none }
def FnChainPutWrongFalsely : Prop := fnChainPutRow.holds Try.pinned (OpenSpec.ofChange fnChainPutWrong)

/-- 'laws.FnChainPass': WHATEVER THE INPUT: true; the input reads as it did. -/
def fnChainPassSpec : ChangeSpec := { name := "fnChainPass", fn := fun _ => fun
  | [d] => { results := [.lit (.bool true)], args := [d] }
  | _ => none }
def fnChainPassRow : OpenClaim := { program := "ytjnloillcgeodaa", sum := "589c75fdebddfc9e5ff62fd384c2c253d609541b06c425a6a810a4ce6c9d7b69", func := "loop.example/confluence/laws.FnChainPass", spec := "fnChainPass", unfollowed := true, recurses := true, apart := false }
def FnChainPassSaid : Prop := fnChainPassRow.holds Try.pinned (OpenSpec.ofChange fnChainPassSpec)

/-- ITS FALSE NEIGHBOUR: 'it returns false'. Refute it at one input. -/
def fnChainPassWrong : ChangeSpec := { name := "fnChainPass", fn := fun _ => fun
  | [d] => { results := [.lit (.bool false)], args := [d] }
  | _ => none }
def FnChainPassWrongFalsely : Prop := fnChainPassRow.holds Try.pinned (OpenSpec.ofChange fnChainPassWrong)

/-- 'laws.FnChainDrain': WHATEVER THE INPUT: true; the input reads as it did. -/
def fnChainDrainSpec : ChangeSpec := { name := "fnChainDrain", fn := fun _ => fun
  | [d] => { results := [.lit (.bool true)], args := [d] }
  | _ => none }
def fnChainDrainRow : OpenClaim := { program := "ytjnloillcgeodaa", sum := "589c75fdebddfc9e5ff62fd384c2c253d609541b06c425a6a810a4ce6c9d7b69", func := "loop.example/confluence/laws.FnChainDrain", spec := "fnChainDrain", unfollowed := true, recurses := true, apart := false }
def FnChainDrainSaid : Prop := fnChainDrainRow.holds Try.pinned (OpenSpec.ofChange fnChainDrainSpec)

/-- ITS FALSE NEIGHBOUR: 'it returns false'. Refute it at one input. -/
def fnChainDrainWrong : ChangeSpec := { name := "fnChainDrain", fn := fun _ => fun
  | [d] => { results := [.lit (.bool false)], args := [d] }
  | _ => none }
def FnChainDrainWrongFalsely : Prop := fnChainDrainRow.holds Try.pinned (OpenSpec.ofChange fnChainDrainWrong)

/-- 'laws.FnExactChainPass': WHATEVER THE INPUT: true; the input reads as it did. -/
def fnExactChainPassSpec : ChangeSpec := { name := "fnExactChainPass", fn := fun _ => fun
  | [d1, d2] => { results := [.lit (.bool true)], args := [d1, d2] }
  | _ => none }
def fnExactChainPassRow : OpenClaim := { program := "ytjnloillcgeodaa", sum := "589c75fdebddfc9e5ff62fd384c2c253d609541b06c425a6a810a4ce6c9d7b69", func := "loop.example/confluence/laws.FnExactChainPass", spec := "fnExactChainPass", unfollowed := true, recurses := true, apart := false }
def FnExactChainPassSaid : Prop := fnExactChainPassRow.holds Try.pinned (OpenSpec.ofChange fnExactChainPassSpec)

/-- ITS FALSE NEIGHBOUR: 'it returns false'. Refute it at one input. -/
def fnExactChainPassWrong : ChangeSpec := { name := "fnExactChainPass", fn := fun _ => fun
  | [d1, d2] => { results := [.lit (.bool false)], args := [d1, d2] }
  | _ => none }
def FnExactChainPassWrongFalsely : Prop := fnExactChainPassRow.holds Try.pinned (OpenSpec.ofChange fnExactChainPassWrong)

/- THE SECOND FORM. 'bulk': how many values and letters a reading holds, each counted each time it is reached (what is shared counts as often as it is met; a slice's spare places count too). A statement '..UptoSaid' is the law's where the arguments, and the package variables that the reading takes, are together of bulk at most 1048576: NARROWER than '..Said'. Prove '..Said' where nothing that the law and all that it calls make is longer than what came in: it says more and counts as full. Else prove '..UptoSaid'. A law counts once. -/
mutual
def uptoBulk {H : Type} : DataW H → Nat
  | .lit (.string bytes) => bytes.length + 1
  | .lit _ => 1
  | .nil => 1
  | .ptr d => uptoBulk d + 1
  | .slice elems spare => uptoBulkAll elems + uptoBulkAll spare + 1
  | .agg parts => uptoBulkAll parts + 1
  | .iface _ d => uptoBulk d + 1
  | .map entries => uptoBulkEntries entries + 1
  | .held _ => 1
def uptoBulkAll {H : Type} : List (DataW H) → Nat
  | [] => 0
  | d :: r => uptoBulk d + uptoBulkAll r
def uptoBulkEntries {H : Type} : List (Lit × DataW H) → Nat
  | [] => 0
  | x :: r => uptoBulkEntry x + uptoBulkEntries r
def uptoBulkEntry {H : Type} : Lit × DataW H → Nat
  | (.string bytes, d) => bytes.length + uptoBulk d + 1
  | (_, d) => uptoBulk d + 1
 end
def uptoSmall : (H : Type) → List (DataW H) → Bool := fun _ ds => decide (uptoBulkAll ds ≤ 1048576)
def OpenSpec.upto (s : _root_.Go.ChangeSpec) : _root_.Go.OpenSpec := { _root_.Go.OpenSpec.ofChange s with cond := some uptoSmall }

/-- 'laws.FnChainPut', WHERE WHAT IT READS IS OF BULK AT MOST 1048576: true; the input reads as it did. -/
def fnChainPutUptoRow : OpenClaim := { program := "ytjnloillcgeodaa", sum := "589c75fdebddfc9e5ff62fd384c2c253d609541b06c425a6a810a4ce6c9d7b69", func := "loop.example/confluence/laws.FnChainPut", spec := "fnChainPut", unfollowed := true, recurses := true, apart := false, narrowed := true }
def FnChainPutUptoSaid : Prop := fnChainPutUptoRow.holds Try.pinned (OpenSpec.upto fnChainPutSpec)

/-- 'laws.FnChainPass', WHERE WHAT IT READS IS OF BULK AT MOST 1048576: true; the input reads as it did. -/
def fnChainPassUptoRow : OpenClaim := { program := "ytjnloillcgeodaa", sum := "589c75fdebddfc9e5ff62fd384c2c253d609541b06c425a6a810a4ce6c9d7b69", func := "loop.example/confluence/laws.FnChainPass", spec := "fnChainPass", unfollowed := true, recurses := true, apart := false, narrowed := true }
def FnChainPassUptoSaid : Prop := fnChainPassUptoRow.holds Try.pinned (OpenSpec.upto fnChainPassSpec)

/-- 'laws.FnChainDrain', WHERE WHAT IT READS IS OF BULK AT MOST 1048576: true; the input reads as it did. -/
def fnChainDrainUptoRow : OpenClaim := { program := "ytjnloillcgeodaa", sum := "589c75fdebddfc9e5ff62fd384c2c253d609541b06c425a6a810a4ce6c9d7b69", func := "loop.example/confluence/laws.FnChainDrain", spec := "fnChainDrain", unfollowed := true, recurses := true, apart := false, narrowed := true }
def FnChainDrainUptoSaid : Prop := fnChainDrainUptoRow.holds Try.pinned (OpenSpec.upto fnChainDrainSpec)

/-- 'laws.FnExactChainPass', WHERE WHAT IT READS IS OF BULK AT MOST 1048576: true; the input reads as it did. -/
def fnExactChainPassUptoRow : OpenClaim := { program := "ytjnloillcgeodaa", sum := "589c75fdebddfc9e5ff62fd384c2c253d609541b06c425a6a810a4ce6c9d7b69", func := "loop.example/confluence/laws.FnExactChainPass", spec := "fnExactChainPass", unfollowed := true, recurses := true, apart := false, narrowed := true }
def FnExactChainPassUptoSaid : Prop := fnExactChainPassUptoRow.holds Try.pinned (OpenSpec.upto fnExactChainPassSpec)

end Rows
end Go.Proofs.Ytjnloillcgeodaa
