/-
  No cell of these rows narrows 'for every input' (looked for: loops, veiled, ifaces, maps, wideKeys, modest, calm, conditions, laid).
  DERIVED. THE GIVEN ROWS OF THIS SEAT. 11 by the template 'for every input the law returns true; each argument reads behind the call as it read before'; 0 by the template 'total and deterministic' (their statements: YtpoidknaaaoebaaTotals.lean).
  GIVEN WITH THE SEED: the statements are not yours to turn. If you find one false, say at which input.
  Laid BY PROGRAM, IN A SANDBOX (cutbox-rows.mjs): the forced cells as the released guide's own fill.sh prints them over the translation 526aa5e393df6af5… (all of the seat's roots in one cut). By AI agents, Wed Nov 11 2026. No macro, syntax, notation, axiom, sorry.
-/
import Derived.Test.YtpoidknaaaoebaaChecked
import GoSem.Claim
import GoSem.ClaimJoined
import GoSem.ClaimMapViews
import Derived.JoinedTies
import Derived.KernelRfl
namespace Go.Proofs.Ytpoidknaaaoebaa
/- THE CELL 'sum', in the pinned program and in every row, IS THE sha256 OF THE DUMP (.gsa) THAT YtpoidknaaaoebaaProg.lean LOADS. Nothing in Lean hashes anything: it is a label: what it is worth is what the hold of that sum in a sandbox is worth. -/
noncomputable def Try.pinned : Pinned := { name := "ytpoidknaaaoebaa", sum := "526aa5e393df6af57d0a6263f3595e92f8f28e1eb59239e9dbf2cdaddf31f97f", checked := Try.checked }
namespace Rows
def none {H : Type} : Left H := { results := [], args := [] }

/-- 'laws.FnTagLess': WHATEVER THE INPUT: true; the input reads as it did. -/
def fnTagLessSpec : ChangeSpec := { name := "fnTagLess", fn := fun _ => fun
  | [d1, d2] => { results := [.lit (.bool true)], args := [d1, d2] }
  | _ => none }
def fnTagLessRow : OpenClaim := { program := "ytpoidknaaaoebaa", sum := "526aa5e393df6af57d0a6263f3595e92f8f28e1eb59239e9dbf2cdaddf31f97f", func := "loop.example/confluence/laws.FnTagLess", spec := "fnTagLess", apart := false }
def FnTagLessSaid : Prop := fnTagLessRow.holds Try.pinned (OpenSpec.ofChange fnTagLessSpec)

/-- ITS FALSE NEIGHBOUR: 'it returns false'. Refute it at one input. -/
def fnTagLessWrong : ChangeSpec := { name := "fnTagLess", fn := fun _ => fun
  | [d1, d2] => { results := [.lit (.bool false)], args := [d1, d2] }
  | _ => none }
def FnTagLessWrongFalsely : Prop := fnTagLessRow.holds Try.pinned (OpenSpec.ofChange fnTagLessWrong)

/-- 'laws.FnTagMax': WHATEVER THE INPUT: true; the input reads as it did. -/
def fnTagMaxSpec : ChangeSpec := { name := "fnTagMax", fn := fun _ => fun
  | [d] => { results := [.lit (.bool true)], args := [d] }
  | _ => none }
def fnTagMaxRow : OpenClaim := { program := "ytpoidknaaaoebaa", sum := "526aa5e393df6af57d0a6263f3595e92f8f28e1eb59239e9dbf2cdaddf31f97f", func := "loop.example/confluence/laws.FnTagMax", spec := "fnTagMax", apart := false }
def FnTagMaxSaid : Prop := fnTagMaxRow.holds Try.pinned (OpenSpec.ofChange fnTagMaxSpec)

/-- ITS FALSE NEIGHBOUR: 'it returns false'. Refute it at one input. -/
def fnTagMaxWrong : ChangeSpec := { name := "fnTagMax", fn := fun _ => fun
  | [d] => { results := [.lit (.bool false)], args := [d] }
  | _ => none }
def FnTagMaxWrongFalsely : Prop := fnTagMaxRow.holds Try.pinned (OpenSpec.ofChange fnTagMaxWrong)

/-- 'laws.FnPastJoin': WHATEVER THE INPUT: true; the input reads as it did. -/
def fnPastJoinSpec : ChangeSpec := { name := "fnPastJoin", fn := fun _ => fun
  | [d] => { results := [.lit (.bool true)], args := [d] }
  | _ => none }
def fnPastJoinRow : OpenClaim := { program := "ytpoidknaaaoebaa", sum := "526aa5e393df6af57d0a6263f3595e92f8f28e1eb59239e9dbf2cdaddf31f97f", func := "loop.example/confluence/laws.FnPastJoin", spec := "fnPastJoin", apart := false }
def FnPastJoinSaid : Prop := fnPastJoinRow.holds Try.pinned (OpenSpec.ofChange fnPastJoinSpec)

/-- ITS FALSE NEIGHBOUR: 'it returns false'. Refute it at one input. -/
def fnPastJoinWrong : ChangeSpec := { name := "fnPastJoin", fn := fun _ => fun
  | [d] => { results := [.lit (.bool false)], args := [d] }
  | _ => none }
def FnPastJoinWrongFalsely : Prop := fnPastJoinRow.holds Try.pinned (OpenSpec.ofChange fnPastJoinWrong)

/-- 'laws.FnPastWithin': WHATEVER THE INPUT: true; the input reads as it did. -/
def fnPastWithinSpec : ChangeSpec := { name := "fnPastWithin", fn := fun _ => fun
  | [d] => { results := [.lit (.bool true)], args := [d] }
  | _ => none }
def fnPastWithinRow : OpenClaim := { program := "ytpoidknaaaoebaa", sum := "526aa5e393df6af57d0a6263f3595e92f8f28e1eb59239e9dbf2cdaddf31f97f", func := "loop.example/confluence/laws.FnPastWithin", spec := "fnPastWithin", apart := false }
def FnPastWithinSaid : Prop := fnPastWithinRow.holds Try.pinned (OpenSpec.ofChange fnPastWithinSpec)

/-- ITS FALSE NEIGHBOUR: 'it returns false'. Refute it at one input. -/
def fnPastWithinWrong : ChangeSpec := { name := "fnPastWithin", fn := fun _ => fun
  | [d] => { results := [.lit (.bool false)], args := [d] }
  | _ => none }
def FnPastWithinWrongFalsely : Prop := fnPastWithinRow.holds Try.pinned (OpenSpec.ofChange fnPastWithinWrong)

/-- 'laws.FnExactTagOk': WHATEVER THE INPUT: true; the input reads as it did. -/
def fnExactTagOkSpec : ChangeSpec := { name := "fnExactTagOk", fn := fun _ => fun
  | [d] => { results := [.lit (.bool true)], args := [d] }
  | _ => none }
def fnExactTagOkRow : OpenClaim := { program := "ytpoidknaaaoebaa", sum := "526aa5e393df6af57d0a6263f3595e92f8f28e1eb59239e9dbf2cdaddf31f97f", func := "loop.example/confluence/laws.FnExactTagOk", spec := "fnExactTagOk", apart := false }
def FnExactTagOkSaid : Prop := fnExactTagOkRow.holds Try.pinned (OpenSpec.ofChange fnExactTagOkSpec)

/-- ITS FALSE NEIGHBOUR: 'it returns false'. Refute it at one input. -/
def fnExactTagOkWrong : ChangeSpec := { name := "fnExactTagOk", fn := fun _ => fun
  | [d] => { results := [.lit (.bool false)], args := [d] }
  | _ => none }
def FnExactTagOkWrongFalsely : Prop := fnExactTagOkRow.holds Try.pinned (OpenSpec.ofChange fnExactTagOkWrong)

/-- 'laws.FnExactTagLess': WHATEVER THE INPUT: true; the input reads as it did. -/
def fnExactTagLessSpec : ChangeSpec := { name := "fnExactTagLess", fn := fun _ => fun
  | [d1, d2] => { results := [.lit (.bool true)], args := [d1, d2] }
  | _ => none }
def fnExactTagLessRow : OpenClaim := { program := "ytpoidknaaaoebaa", sum := "526aa5e393df6af57d0a6263f3595e92f8f28e1eb59239e9dbf2cdaddf31f97f", func := "loop.example/confluence/laws.FnExactTagLess", spec := "fnExactTagLess", apart := false }
def FnExactTagLessSaid : Prop := fnExactTagLessRow.holds Try.pinned (OpenSpec.ofChange fnExactTagLessSpec)

/-- ITS FALSE NEIGHBOUR: 'it returns false'. Refute it at one input. -/
def fnExactTagLessWrong : ChangeSpec := { name := "fnExactTagLess", fn := fun _ => fun
  | [d1, d2] => { results := [.lit (.bool false)], args := [d1, d2] }
  | _ => none }
def FnExactTagLessWrongFalsely : Prop := fnExactTagLessRow.holds Try.pinned (OpenSpec.ofChange fnExactTagLessWrong)

/-- 'laws.FnExactTagMax': WHATEVER THE INPUT: true; the input reads as it did. -/
def fnExactTagMaxSpec : ChangeSpec := { name := "fnExactTagMax", fn := fun _ => fun
  | [d1, d2] => { results := [.lit (.bool true)], args := [d1, d2] }
  | _ => none }
def fnExactTagMaxRow : OpenClaim := { program := "ytpoidknaaaoebaa", sum := "526aa5e393df6af57d0a6263f3595e92f8f28e1eb59239e9dbf2cdaddf31f97f", func := "loop.example/confluence/laws.FnExactTagMax", spec := "fnExactTagMax", apart := false }
def FnExactTagMaxSaid : Prop := fnExactTagMaxRow.holds Try.pinned (OpenSpec.ofChange fnExactTagMaxSpec)

/-- ITS FALSE NEIGHBOUR: 'it returns false'. Refute it at one input. -/
def fnExactTagMaxWrong : ChangeSpec := { name := "fnExactTagMax", fn := fun _ => fun
  | [d1, d2] => { results := [.lit (.bool false)], args := [d1, d2] }
  | _ => none }
def FnExactTagMaxWrongFalsely : Prop := fnExactTagMaxRow.holds Try.pinned (OpenSpec.ofChange fnExactTagMaxWrong)

/-- 'laws.FnExactPastOk': WHATEVER THE INPUT: true; the input reads as it did. -/
def fnExactPastOkSpec : ChangeSpec := { name := "fnExactPastOk", fn := fun _ => fun
  | [d] => { results := [.lit (.bool true)], args := [d] }
  | _ => none }
def fnExactPastOkRow : OpenClaim := { program := "ytpoidknaaaoebaa", sum := "526aa5e393df6af57d0a6263f3595e92f8f28e1eb59239e9dbf2cdaddf31f97f", func := "loop.example/confluence/laws.FnExactPastOk", spec := "fnExactPastOk", apart := false }
def FnExactPastOkSaid : Prop := fnExactPastOkRow.holds Try.pinned (OpenSpec.ofChange fnExactPastOkSpec)

/-- ITS FALSE NEIGHBOUR: 'it returns false'. Refute it at one input. -/
def fnExactPastOkWrong : ChangeSpec := { name := "fnExactPastOk", fn := fun _ => fun
  | [d] => { results := [.lit (.bool false)], args := [d] }
  | _ => none }
def FnExactPastOkWrongFalsely : Prop := fnExactPastOkRow.holds Try.pinned (OpenSpec.ofChange fnExactPastOkWrong)

/-- 'laws.FnExactPastNone': WHATEVER THE INPUT: true; the input reads as it did. -/
def fnExactPastNoneSpec : ChangeSpec := { name := "fnExactPastNone", fn := fun _ => fun
  | [] => { results := [.lit (.bool true)], args := [] }
  | _ => none }
def fnExactPastNoneRow : OpenClaim := { program := "ytpoidknaaaoebaa", sum := "526aa5e393df6af57d0a6263f3595e92f8f28e1eb59239e9dbf2cdaddf31f97f", func := "loop.example/confluence/laws.FnExactPastNone", spec := "fnExactPastNone", apart := false }
def FnExactPastNoneSaid : Prop := fnExactPastNoneRow.holds Try.pinned (OpenSpec.ofChange fnExactPastNoneSpec)

/-- ITS FALSE NEIGHBOUR: 'it returns false'. Refute it at one input. -/
def fnExactPastNoneWrong : ChangeSpec := { name := "fnExactPastNone", fn := fun _ => fun
  | [] => { results := [.lit (.bool false)], args := [] }
  | _ => none }
def FnExactPastNoneWrongFalsely : Prop := fnExactPastNoneRow.holds Try.pinned (OpenSpec.ofChange fnExactPastNoneWrong)

/-- 'laws.FnExactPastJoin': WHATEVER THE INPUT: true; the input reads as it did. -/
def fnExactPastJoinSpec : ChangeSpec := { name := "fnExactPastJoin", fn := fun _ => fun
  | [d1, d2] => { results := [.lit (.bool true)], args := [d1, d2] }
  | _ => none }
def fnExactPastJoinRow : OpenClaim := { program := "ytpoidknaaaoebaa", sum := "526aa5e393df6af57d0a6263f3595e92f8f28e1eb59239e9dbf2cdaddf31f97f", func := "loop.example/confluence/laws.FnExactPastJoin", spec := "fnExactPastJoin", apart := false }
def FnExactPastJoinSaid : Prop := fnExactPastJoinRow.holds Try.pinned (OpenSpec.ofChange fnExactPastJoinSpec)

/-- ITS FALSE NEIGHBOUR: 'it returns false'. Refute it at one input. -/
def fnExactPastJoinWrong : ChangeSpec := { name := "fnExactPastJoin", fn := fun _ => fun
  | [d1, d2] => { results := [.lit (.bool false)], args := [d1, d2] }
  | _ => none }
def FnExactPastJoinWrongFalsely : Prop := fnExactPastJoinRow.holds Try.pinned (OpenSpec.ofChange fnExactPastJoinWrong)

/-- 'laws.FnExactPastWithin': WHATEVER THE INPUT: true; the input reads as it did. -/
def fnExactPastWithinSpec : ChangeSpec := { name := "fnExactPastWithin", fn := fun _ => fun
  | [d1, d2] => { results := [.lit (.bool true)], args := [d1, d2] }
  | _ => none }
def fnExactPastWithinRow : OpenClaim := { program := "ytpoidknaaaoebaa", sum := "526aa5e393df6af57d0a6263f3595e92f8f28e1eb59239e9dbf2cdaddf31f97f", func := "loop.example/confluence/laws.FnExactPastWithin", spec := "fnExactPastWithin", apart := false }
def FnExactPastWithinSaid : Prop := fnExactPastWithinRow.holds Try.pinned (OpenSpec.ofChange fnExactPastWithinSpec)

/-- ITS FALSE NEIGHBOUR: 'it returns false'. Refute it at one input. -/
def fnExactPastWithinWrong : ChangeSpec := { name := "fnExactPastWithin", fn := fun _ => fun
  | [d1, d2] => { results := [.lit (.bool false)], args := [d1, d2] }
  | _ => none }
def FnExactPastWithinWrongFalsely : Prop := fnExactPastWithinRow.holds Try.pinned (OpenSpec.ofChange fnExactPastWithinWrong)

/- THE SECOND FORM. 'bulk': how many values and letters a reading holds, each counted each time it is reached (what is shared counts as often as it is met; a slice's spare places count too). A statement '..UptoSaid' is the law's where the arguments, and the package variables that the reading takes, are together of bulk at most 1048576: NARROWER than '..Said'. Prove '..Said' where nothing that the law and all that it calls make is longer than what came in: it says more and counts as full. Else prove '..UptoSaid'. A law counts once. -/
mutual
def uptoBulk {H : Type} : DataW H → Nat
  | .lit (.string bytes) => bytes.length + 1
  | .lit _ => 1
  | .nil => 1
  | .ptr d => uptoBulk d + 1
  | .slice elems spare => uptoBulkAll elems + uptoBulkAll spare + 1
  | .agg parts => uptoBulkAll parts + 1
  | .iface _ d => uptoBulk d + 1
  | .map entries => uptoBulkEntries entries + 1
  | .held _ => 1
def uptoBulkAll {H : Type} : List (DataW H) → Nat
  | [] => 0
  | d :: r => uptoBulk d + uptoBulkAll r
def uptoBulkEntries {H : Type} : List (Lit × DataW H) → Nat
  | [] => 0
  | x :: r => uptoBulkEntry x + uptoBulkEntries r
def uptoBulkEntry {H : Type} : Lit × DataW H → Nat
  | (.string bytes, d) => bytes.length + uptoBulk d + 1
  | (_, d) => uptoBulk d + 1
 end
def uptoSmall : (H : Type) → List (DataW H) → Bool := fun _ ds => decide (uptoBulkAll ds ≤ 1048576)
def OpenSpec.upto (s : _root_.Go.ChangeSpec) : _root_.Go.OpenSpec := { _root_.Go.OpenSpec.ofChange s with cond := some uptoSmall }

/-- 'laws.FnTagLess', WHERE WHAT IT READS IS OF BULK AT MOST 1048576: true; the input reads as it did. -/
def fnTagLessUptoRow : OpenClaim := { program := "ytpoidknaaaoebaa", sum := "526aa5e393df6af57d0a6263f3595e92f8f28e1eb59239e9dbf2cdaddf31f97f", func := "loop.example/confluence/laws.FnTagLess", spec := "fnTagLess", apart := false, narrowed := true }
def FnTagLessUptoSaid : Prop := fnTagLessUptoRow.holds Try.pinned (OpenSpec.upto fnTagLessSpec)

/-- 'laws.FnTagMax', WHERE WHAT IT READS IS OF BULK AT MOST 1048576: true; the input reads as it did. -/
def fnTagMaxUptoRow : OpenClaim := { program := "ytpoidknaaaoebaa", sum := "526aa5e393df6af57d0a6263f3595e92f8f28e1eb59239e9dbf2cdaddf31f97f", func := "loop.example/confluence/laws.FnTagMax", spec := "fnTagMax", apart := false, narrowed := true }
def FnTagMaxUptoSaid : Prop := fnTagMaxUptoRow.holds Try.pinned (OpenSpec.upto fnTagMaxSpec)

/-- 'laws.FnPastJoin', WHERE WHAT IT READS IS OF BULK AT MOST 1048576: true; the input reads as it did. -/
def fnPastJoinUptoRow : OpenClaim := { program := "ytpoidknaaaoebaa", sum := "526aa5e393df6af57d0a6263f3595e92f8f28e1eb59239e9dbf2cdaddf31f97f", func := "loop.example/confluence/laws.FnPastJoin", spec := "fnPastJoin", apart := false, narrowed := true }
def FnPastJoinUptoSaid : Prop := fnPastJoinUptoRow.holds Try.pinned (OpenSpec.upto fnPastJoinSpec)

/-- 'laws.FnPastWithin', WHERE WHAT IT READS IS OF BULK AT MOST 1048576: true; the input reads as it did. -/
def fnPastWithinUptoRow : OpenClaim := { program := "ytpoidknaaaoebaa", sum := "526aa5e393df6af57d0a6263f3595e92f8f28e1eb59239e9dbf2cdaddf31f97f", func := "loop.example/confluence/laws.FnPastWithin", spec := "fnPastWithin", apart := false, narrowed := true }
def FnPastWithinUptoSaid : Prop := fnPastWithinUptoRow.holds Try.pinned (OpenSpec.upto fnPastWithinSpec)

/-- 'laws.FnExactTagOk', WHERE WHAT IT READS IS OF BULK AT MOST 1048576: true; the input reads as it did. -/
def fnExactTagOkUptoRow : OpenClaim := { program := "ytpoidknaaaoebaa", sum := "526aa5e393df6af57d0a6263f3595e92f8f28e1eb59239e9dbf2cdaddf31f97f", func := "loop.example/confluence/laws.FnExactTagOk", spec := "fnExactTagOk", apart := false, narrowed := true }
def FnExactTagOkUptoSaid : Prop := fnExactTagOkUptoRow.holds Try.pinned (OpenSpec.upto fnExactTagOkSpec)

/-- 'laws.FnExactTagLess', WHERE WHAT IT READS IS OF BULK AT MOST 1048576: true; the input reads as it did. -/
def fnExactTagLessUptoRow : OpenClaim := { program := "ytpoidknaaaoebaa", sum := "526aa5e393df6af57d0a6263f3595e92f8f28e1eb59239e9dbf2cdaddf31f97f", func := "loop.example/confluence/laws.FnExactTagLess", spec := "fnExactTagLess", apart := false, narrowed := true }
def FnExactTagLessUptoSaid : Prop := fnExactTagLessUptoRow.holds Try.pinned (OpenSpec.upto fnExactTagLessSpec)

/-- 'laws.FnExactTagMax', WHERE WHAT IT READS IS OF BULK AT MOST 1048576: true; the input reads as it did. -/
def fnExactTagMaxUptoRow : OpenClaim := { program := "ytpoidknaaaoebaa", sum := "526aa5e393df6af57d0a6263f3595e92f8f28e1eb59239e9dbf2cdaddf31f97f", func := "loop.example/confluence/laws.FnExactTagMax", spec := "fnExactTagMax", apart := false, narrowed := true }
def FnExactTagMaxUptoSaid : Prop := fnExactTagMaxUptoRow.holds Try.pinned (OpenSpec.upto fnExactTagMaxSpec)

/-- 'laws.FnExactPastOk', WHERE WHAT IT READS IS OF BULK AT MOST 1048576: true; the input reads as it did. -/
def fnExactPastOkUptoRow : OpenClaim := { program := "ytpoidknaaaoebaa", sum := "526aa5e393df6af57d0a6263f3595e92f8f28e1eb59239e9dbf2cdaddf31f97f", func := "loop.example/confluence/laws.FnExactPastOk", spec := "fnExactPastOk", apart := false, narrowed := true }
def FnExactPastOkUptoSaid : Prop := fnExactPastOkUptoRow.holds Try.pinned (OpenSpec.upto fnExactPastOkSpec)

/-- 'laws.FnExactPastNone', WHERE WHAT IT READS IS OF BULK AT MOST 1048576: true; the input reads as it did. -/
def fnExactPastNoneUptoRow : OpenClaim := { program := "ytpoidknaaaoebaa", sum := "526aa5e393df6af57d0a6263f3595e92f8f28e1eb59239e9dbf2cdaddf31f97f", func := "loop.example/confluence/laws.FnExactPastNone", spec := "fnExactPastNone", apart := false, narrowed := true }
def FnExactPastNoneUptoSaid : Prop := fnExactPastNoneUptoRow.holds Try.pinned (OpenSpec.upto fnExactPastNoneSpec)

/-- 'laws.FnExactPastJoin', WHERE WHAT IT READS IS OF BULK AT MOST 1048576: true; the input reads as it did. -/
def fnExactPastJoinUptoRow : OpenClaim := { program := "ytpoidknaaaoebaa", sum := "526aa5e393df6af57d0a6263f3595e92f8f28e1eb59239e9dbf2cdaddf31f97f", func := "loop.example/confluence/laws.FnExactPastJoin", spec := "fnExactPastJoin", apart := false, narrowed := true }
def FnExactPastJoinUptoSaid : Prop := fnExactPastJoinUptoRow.holds Try.pinned (OpenSpec.upto fnExactPastJoinSpec)

/-- 'laws.FnExactPastWithin', WHERE WHAT IT READS IS OF BULK AT MOST 1048576: true; the input reads as it did. -/
def fnExactPastWithinUptoRow : OpenClaim := { program := "ytpoidknaaaoebaa", sum := "526aa5e393df6af57d0a6263f3595e92f8f28e1eb59239e9dbf2cdaddf31f97f", func := "loop.example/confluence/laws.FnExactPastWithin", spec := "fnExactPastWithin", apart := false, narrowed := true }
def FnExactPastWithinUptoSaid : Prop := fnExactPastWithinUptoRow.holds Try.pinned (OpenSpec.upto fnExactPastWithinSpec)

end Rows
end Go.Proofs.Ytpoidknaaaoebaa
