/-
  No cell of these rows narrows 'for every input' (looked for: loops, veiled, ifaces, maps, wideKeys, modest, calm, conditions, laid).
  DERIVED. THE GIVEN ROWS OF THIS SEAT. 5 by the template 'for every input the law returns true; each argument reads behind the call as it read before'; 0 by the template 'total and deterministic' (their statements: YtcfhnhiodpinmaaTotals.lean).
  GIVEN WITH THE SEED: the statements are not yours to turn. If you find one false, say at which input.
  Laid BY PROGRAM, IN A SANDBOX (cutbox-rows.mjs): the forced cells as the released guide's own fill.sh prints them over the translation 53a16f1eaa018d3d… (all of the seat's roots in one cut). By AI agents, Wed Nov 11 2026. No macro, syntax, notation, axiom, sorry.
-/
import Derived.Test.YtcfhnhiodpinmaaChecked
import GoSem.Claim
import GoSem.ClaimJoined
import GoSem.ClaimMapViews
import Derived.JoinedTies
import Derived.KernelRfl
namespace Go.Proofs.Ytcfhnhiodpinmaa
/- THE CELL 'sum', in the pinned program and in every row, IS THE sha256 OF THE DUMP (.gsa) THAT YtcfhnhiodpinmaaProg.lean LOADS. Nothing in Lean hashes anything: it is a label: what it is worth is what the hold of that sum in a sandbox is worth. -/
noncomputable def Try.pinned : Pinned := { name := "ytcfhnhiodpinmaa", sum := "53a16f1eaa018d3d0e4682168a90f5a20dc81101d206f1ed181e9049fd4b89f4", checked := Try.checked }
namespace Rows
def none {H : Type} : Left H := { results := [], args := [] }

/-- 'laws.FnExactTagOk': WHATEVER THE INPUT: true; the input reads as it did. -/
def fnExactTagOkSpec : ChangeSpec := { name := "fnExactTagOk", fn := fun _ => fun
  | [d] => { results := [.lit (.bool true)], args := [d] }
  | _ => none }
def fnExactTagOkRow : OpenClaim := { program := "ytcfhnhiodpinmaa", sum := "53a16f1eaa018d3d0e4682168a90f5a20dc81101d206f1ed181e9049fd4b89f4", func := "loop.example/confluence/laws.FnExactTagOk", spec := "fnExactTagOk", apart := false }
def FnExactTagOkSaid : Prop := fnExactTagOkRow.holds Try.pinned (OpenSpec.ofChange fnExactTagOkSpec)

/-- ITS FALSE NEIGHBOUR: 'it returns false'. Refute it at one input. -/
def fnExactTagOkWrong : ChangeSpec := { name := "fnExactTagOk", fn := fun _ => fun
  | [d] => { results := [.lit (.bool false)], args := [d] }
  | _ => none }
def FnExactTagOkWrongFalsely : Prop := fnExactTagOkRow.holds Try.pinned (OpenSpec.ofChange fnExactTagOkWrong)

/-- 'laws.FnExactPastOk': WHATEVER THE INPUT: true; the input reads as it did. -/
def fnExactPastOkSpec : ChangeSpec := { name := "fnExactPastOk", fn := fun _ => fun
  | [d] => { results := [.lit (.bool true)], args := [d] }
  | _ => none }
def fnExactPastOkRow : OpenClaim := { program := "ytcfhnhiodpinmaa", sum := "53a16f1eaa018d3d0e4682168a90f5a20dc81101d206f1ed181e9049fd4b89f4", func := "loop.example/confluence/laws.FnExactPastOk", spec := "fnExactPastOk", apart := false }
def FnExactPastOkSaid : Prop := fnExactPastOkRow.holds Try.pinned (OpenSpec.ofChange fnExactPastOkSpec)

/-- ITS FALSE NEIGHBOUR: 'it returns false'. Refute it at one input. -/
def fnExactPastOkWrong : ChangeSpec := { name := "fnExactPastOk", fn := fun _ => fun
  | [d] => { results := [.lit (.bool false)], args := [d] }
  | _ => none }
def FnExactPastOkWrongFalsely : Prop := fnExactPastOkRow.holds Try.pinned (OpenSpec.ofChange fnExactPastOkWrong)

/-- 'laws.FnExactPastNone': WHATEVER THE INPUT: true; the input reads as it did. -/
def fnExactPastNoneSpec : ChangeSpec := { name := "fnExactPastNone", fn := fun _ => fun
  | [] => { results := [.lit (.bool true)], args := [] }
  | _ => none }
def fnExactPastNoneRow : OpenClaim := { program := "ytcfhnhiodpinmaa", sum := "53a16f1eaa018d3d0e4682168a90f5a20dc81101d206f1ed181e9049fd4b89f4", func := "loop.example/confluence/laws.FnExactPastNone", spec := "fnExactPastNone", apart := false }
def FnExactPastNoneSaid : Prop := fnExactPastNoneRow.holds Try.pinned (OpenSpec.ofChange fnExactPastNoneSpec)

/-- ITS FALSE NEIGHBOUR: 'it returns false'. Refute it at one input. -/
def fnExactPastNoneWrong : ChangeSpec := { name := "fnExactPastNone", fn := fun _ => fun
  | [] => { results := [.lit (.bool false)], args := [] }
  | _ => none }
def FnExactPastNoneWrongFalsely : Prop := fnExactPastNoneRow.holds Try.pinned (OpenSpec.ofChange fnExactPastNoneWrong)

/-- 'laws.FnExactVerOk': WHATEVER THE INPUT: true; the input reads as it did. -/
def fnExactVerOkSpec : ChangeSpec := { name := "fnExactVerOk", fn := fun _ => fun
  | [d] => { results := [.lit (.bool true)], args := [d] }
  | _ => none }
def fnExactVerOkRow : OpenClaim := { program := "ytcfhnhiodpinmaa", sum := "53a16f1eaa018d3d0e4682168a90f5a20dc81101d206f1ed181e9049fd4b89f4", func := "loop.example/confluence/laws.FnExactVerOk", spec := "fnExactVerOk", unfollowed := true, recurses := true, apart := false }
def FnExactVerOkSaid : Prop := fnExactVerOkRow.holds Try.pinned (OpenSpec.ofChange fnExactVerOkSpec)

/-- ITS FALSE NEIGHBOUR: 'it returns false'. Refute it at one input. -/
def fnExactVerOkWrong : ChangeSpec := { name := "fnExactVerOk", fn := fun _ => fun
  | [d] => { results := [.lit (.bool false)], args := [d] }
  | _ => none }
def FnExactVerOkWrongFalsely : Prop := fnExactVerOkRow.holds Try.pinned (OpenSpec.ofChange fnExactVerOkWrong)

/-- 'laws.FnExactStoreNew': WHATEVER THE INPUT: true; the input reads as it did. -/
def fnExactStoreNewSpec : ChangeSpec := { name := "fnExactStoreNew", fn := fun _ => fun
  | [] => { results := [.lit (.bool true)], args := [] }
  | _ => none }
def fnExactStoreNewRow : OpenClaim := { program := "ytcfhnhiodpinmaa", sum := "53a16f1eaa018d3d0e4682168a90f5a20dc81101d206f1ed181e9049fd4b89f4", func := "loop.example/confluence/laws.FnExactStoreNew", spec := "fnExactStoreNew", apart := false }
def FnExactStoreNewSaid : Prop := fnExactStoreNewRow.holds Try.pinned (OpenSpec.ofChange fnExactStoreNewSpec)

/-- ITS FALSE NEIGHBOUR: 'it returns false'. Refute it at one input. -/
def fnExactStoreNewWrong : ChangeSpec := { name := "fnExactStoreNew", fn := fun _ => fun
  | [] => { results := [.lit (.bool false)], args := [] }
  | _ => none }
def FnExactStoreNewWrongFalsely : Prop := fnExactStoreNewRow.holds Try.pinned (OpenSpec.ofChange fnExactStoreNewWrong)

/- THE SECOND FORM. 'bulk': how many values and letters a reading holds, each counted each time it is reached (what is shared counts as often as it is met; a slice's spare places count too). A statement '..UptoSaid' is the law's where the arguments, and the package variables that the reading takes, are together of bulk at most 1048576: NARROWER than '..Said'. Prove '..Said' where nothing that the law and all that it calls make is longer than what came in: it says more and counts as full. Else prove '..UptoSaid'. A law counts once. -/
mutual
def uptoBulk {H : Type} : DataW H → Nat
  | .lit (.string bytes) => bytes.length + 1
  | .lit _ => 1
  | .nil => 1
  | .ptr d => uptoBulk d + 1
  | .slice elems spare => uptoBulkAll elems + uptoBulkAll spare + 1
  | .agg parts => uptoBulkAll parts + 1
  | .iface _ d => uptoBulk d + 1
  | .map entries => uptoBulkEntries entries + 1
  | .held _ => 1
def uptoBulkAll {H : Type} : List (DataW H) → Nat
  | [] => 0
  | d :: r => uptoBulk d + uptoBulkAll r
def uptoBulkEntries {H : Type} : List (Lit × DataW H) → Nat
  | [] => 0
  | x :: r => uptoBulkEntry x + uptoBulkEntries r
def uptoBulkEntry {H : Type} : Lit × DataW H → Nat
  | (.string bytes, d) => bytes.length + uptoBulk d + 1
  | (_, d) => uptoBulk d + 1
 end
def uptoSmall : (H : Type) → List (DataW H) → Bool := fun _ ds => decide (uptoBulkAll ds ≤ 1048576)
def OpenSpec.upto (s : _root_.Go.ChangeSpec) : _root_.Go.OpenSpec := { _root_.Go.OpenSpec.ofChange s with cond := some uptoSmall }

/-- 'laws.FnExactTagOk', WHERE WHAT IT READS IS OF BULK AT MOST 1048576: true; the input reads as it did. -/
def fnExactTagOkUptoRow : OpenClaim := { program := "ytcfhnhiodpinmaa", sum := "53a16f1eaa018d3d0e4682168a90f5a20dc81101d206f1ed181e9049fd4b89f4", func := "loop.example/confluence/laws.FnExactTagOk", spec := "fnExactTagOk", apart := false, narrowed := true }
def FnExactTagOkUptoSaid : Prop := fnExactTagOkUptoRow.holds Try.pinned (OpenSpec.upto fnExactTagOkSpec)

/-- 'laws.FnExactPastOk', WHERE WHAT IT READS IS OF BULK AT MOST 1048576: true; the input reads as it did. -/
def fnExactPastOkUptoRow : OpenClaim := { program := "ytcfhnhiodpinmaa", sum := "53a16f1eaa018d3d0e4682168a90f5a20dc81101d206f1ed181e9049fd4b89f4", func := "loop.example/confluence/laws.FnExactPastOk", spec := "fnExactPastOk", apart := false, narrowed := true }
def FnExactPastOkUptoSaid : Prop := fnExactPastOkUptoRow.holds Try.pinned (OpenSpec.upto fnExactPastOkSpec)

/-- 'laws.FnExactPastNone', WHERE WHAT IT READS IS OF BULK AT MOST 1048576: true; the input reads as it did. -/
def fnExactPastNoneUptoRow : OpenClaim := { program := "ytcfhnhiodpinmaa", sum := "53a16f1eaa018d3d0e4682168a90f5a20dc81101d206f1ed181e9049fd4b89f4", func := "loop.example/confluence/laws.FnExactPastNone", spec := "fnExactPastNone", apart := false, narrowed := true }
def FnExactPastNoneUptoSaid : Prop := fnExactPastNoneUptoRow.holds Try.pinned (OpenSpec.upto fnExactPastNoneSpec)

/-- 'laws.FnExactVerOk', WHERE WHAT IT READS IS OF BULK AT MOST 1048576: true; the input reads as it did. -/
def fnExactVerOkUptoRow : OpenClaim := { program := "ytcfhnhiodpinmaa", sum := "53a16f1eaa018d3d0e4682168a90f5a20dc81101d206f1ed181e9049fd4b89f4", func := "loop.example/confluence/laws.FnExactVerOk", spec := "fnExactVerOk", unfollowed := true, recurses := true, apart := false, narrowed := true }
def FnExactVerOkUptoSaid : Prop := fnExactVerOkUptoRow.holds Try.pinned (OpenSpec.upto fnExactVerOkSpec)

/-- 'laws.FnExactStoreNew', WHERE WHAT IT READS IS OF BULK AT MOST 1048576: true; the input reads as it did. -/
def fnExactStoreNewUptoRow : OpenClaim := { program := "ytcfhnhiodpinmaa", sum := "53a16f1eaa018d3d0e4682168a90f5a20dc81101d206f1ed181e9049fd4b89f4", func := "loop.example/confluence/laws.FnExactStoreNew", spec := "fnExactStoreNew", apart := false, narrowed := true }
def FnExactStoreNewUptoSaid : Prop := fnExactStoreNewUptoRow.holds Try.pinned (OpenSpec.upto fnExactStoreNewSpec)

end Rows
end Go.Proofs.Ytcfhnhiodpinmaa
