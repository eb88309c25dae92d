/-
  No cell of these rows narrows 'for every input' (looked for: loops, veiled, ifaces, maps, wideKeys, modest, calm, conditions, laid).
  DERIVED. THE GIVEN ROWS OF THIS SEAT. 18 by the template 'for every input the law returns true; each argument reads behind the call as it read before'; 0 by the template 'total and deterministic' (their statements: YtnblnafajlnofaaTotals.lean).
  GIVEN WITH THE SEED: the statements are not yours to turn. If you find one false, say at which input.
  Laid BY PROGRAM, IN A SANDBOX (cutbox-rows.mjs): the forced cells as the released guide's own fill.sh prints them over the translation 8759f411b44e4f80… (all of the seat's roots in one cut). By AI agents, Wed Nov 11 2026. No macro, syntax, notation, axiom, sorry.
-/
import Derived.Test.YtnblnafajlnofaaChecked
import GoSem.Claim
import GoSem.ClaimJoined
import GoSem.ClaimMapViews
import Derived.JoinedTies
import Derived.KernelRfl
namespace Go.Proofs.Ytnblnafajlnofaa
/- THE CELL 'sum', in the pinned program and in every row, IS THE sha256 OF THE DUMP (.gsa) THAT YtnblnafajlnofaaProg.lean LOADS. Nothing in Lean hashes anything: it is a label: what it is worth is what the hold of that sum in a sandbox is worth. -/
noncomputable def Try.pinned : Pinned := { name := "ytnblnafajlnofaa", sum := "8759f411b44e4f8006c8abe374bb50f6e30b973e6f5853d0572c02e3366f1115", checked := Try.checked }
namespace Rows
def none {H : Type} : Left H := { results := [], args := [] }

/-- 'laws.FnTagLess': WHATEVER THE INPUT: true; the input reads as it did. -/
def fnTagLessSpec : ChangeSpec := { name := "fnTagLess", fn := fun _ => fun
  | [d1, d2] => { results := [.lit (.bool true)], args := [d1, d2] }
  | _ => none }
def fnTagLessRow : OpenClaim := { program := "ytnblnafajlnofaa", sum := "8759f411b44e4f8006c8abe374bb50f6e30b973e6f5853d0572c02e3366f1115", func := "loop.example/confluence/laws.FnTagLess", spec := "fnTagLess", apart := false }
def FnTagLessSaid : Prop := fnTagLessRow.holds Try.pinned (OpenSpec.ofChange fnTagLessSpec)

/-- ITS FALSE NEIGHBOUR: 'it returns false'. Refute it at one input. -/
def fnTagLessWrong : ChangeSpec := { name := "fnTagLess", fn := fun _ => fun
  | [d1, d2] => { results := [.lit (.bool false)], args := [d1, d2] }
  | _ => none }
def FnTagLessWrongFalsely : Prop := fnTagLessRow.holds Try.pinned (OpenSpec.ofChange fnTagLessWrong)

/-- 'laws.FnTagMax': WHATEVER THE INPUT: true; the input reads as it did. -/
def fnTagMaxSpec : ChangeSpec := { name := "fnTagMax", fn := fun _ => fun
  | [d] => { results := [.lit (.bool true)], args := [d] }
  | _ => none }
def fnTagMaxRow : OpenClaim := { program := "ytnblnafajlnofaa", sum := "8759f411b44e4f8006c8abe374bb50f6e30b973e6f5853d0572c02e3366f1115", func := "loop.example/confluence/laws.FnTagMax", spec := "fnTagMax", apart := false }
def FnTagMaxSaid : Prop := fnTagMaxRow.holds Try.pinned (OpenSpec.ofChange fnTagMaxSpec)

/-- ITS FALSE NEIGHBOUR: 'it returns false'. Refute it at one input. -/
def fnTagMaxWrong : ChangeSpec := { name := "fnTagMax", fn := fun _ => fun
  | [d] => { results := [.lit (.bool false)], args := [d] }
  | _ => none }
def FnTagMaxWrongFalsely : Prop := fnTagMaxRow.holds Try.pinned (OpenSpec.ofChange fnTagMaxWrong)

/-- 'laws.FnPastJoin': WHATEVER THE INPUT: true; the input reads as it did. -/
def fnPastJoinSpec : ChangeSpec := { name := "fnPastJoin", fn := fun _ => fun
  | [d] => { results := [.lit (.bool true)], args := [d] }
  | _ => none }
def fnPastJoinRow : OpenClaim := { program := "ytnblnafajlnofaa", sum := "8759f411b44e4f8006c8abe374bb50f6e30b973e6f5853d0572c02e3366f1115", func := "loop.example/confluence/laws.FnPastJoin", spec := "fnPastJoin", apart := false }
def FnPastJoinSaid : Prop := fnPastJoinRow.holds Try.pinned (OpenSpec.ofChange fnPastJoinSpec)

/-- ITS FALSE NEIGHBOUR: 'it returns false'. Refute it at one input. -/
def fnPastJoinWrong : ChangeSpec := { name := "fnPastJoin", fn := fun _ => fun
  | [d] => { results := [.lit (.bool false)], args := [d] }
  | _ => none }
def FnPastJoinWrongFalsely : Prop := fnPastJoinRow.holds Try.pinned (OpenSpec.ofChange fnPastJoinWrong)

/-- 'laws.FnPastWithin': WHATEVER THE INPUT: true; the input reads as it did. -/
def fnPastWithinSpec : ChangeSpec := { name := "fnPastWithin", fn := fun _ => fun
  | [d] => { results := [.lit (.bool true)], args := [d] }
  | _ => none }
def fnPastWithinRow : OpenClaim := { program := "ytnblnafajlnofaa", sum := "8759f411b44e4f8006c8abe374bb50f6e30b973e6f5853d0572c02e3366f1115", func := "loop.example/confluence/laws.FnPastWithin", spec := "fnPastWithin", apart := false }
def FnPastWithinSaid : Prop := fnPastWithinRow.holds Try.pinned (OpenSpec.ofChange fnPastWithinSpec)

/-- ITS FALSE NEIGHBOUR: 'it returns false'. Refute it at one input. -/
def fnPastWithinWrong : ChangeSpec := { name := "fnPastWithin", fn := fun _ => fun
  | [d] => { results := [.lit (.bool false)], args := [d] }
  | _ => none }
def FnPastWithinWrongFalsely : Prop := fnPastWithinRow.holds Try.pinned (OpenSpec.ofChange fnPastWithinWrong)

/-- 'laws.FnExactTagOk': WHATEVER THE INPUT: true; the input reads as it did. -/
def fnExactTagOkSpec : ChangeSpec := { name := "fnExactTagOk", fn := fun _ => fun
  | [d] => { results := [.lit (.bool true)], args := [d] }
  | _ => none }
def fnExactTagOkRow : OpenClaim := { program := "ytnblnafajlnofaa", sum := "8759f411b44e4f8006c8abe374bb50f6e30b973e6f5853d0572c02e3366f1115", func := "loop.example/confluence/laws.FnExactTagOk", spec := "fnExactTagOk", apart := false }
def FnExactTagOkSaid : Prop := fnExactTagOkRow.holds Try.pinned (OpenSpec.ofChange fnExactTagOkSpec)

/-- ITS FALSE NEIGHBOUR: 'it returns false'. Refute it at one input. -/
def fnExactTagOkWrong : ChangeSpec := { name := "fnExactTagOk", fn := fun _ => fun
  | [d] => { results := [.lit (.bool false)], args := [d] }
  | _ => none }
def FnExactTagOkWrongFalsely : Prop := fnExactTagOkRow.holds Try.pinned (OpenSpec.ofChange fnExactTagOkWrong)

/-- 'laws.FnExactTagLess': WHATEVER THE INPUT: true; the input reads as it did. -/
def fnExactTagLessSpec : ChangeSpec := { name := "fnExactTagLess", fn := fun _ => fun
  | [d1, d2] => { results := [.lit (.bool true)], args := [d1, d2] }
  | _ => none }
def fnExactTagLessRow : OpenClaim := { program := "ytnblnafajlnofaa", sum := "8759f411b44e4f8006c8abe374bb50f6e30b973e6f5853d0572c02e3366f1115", func := "loop.example/confluence/laws.FnExactTagLess", spec := "fnExactTagLess", apart := false }
def FnExactTagLessSaid : Prop := fnExactTagLessRow.holds Try.pinned (OpenSpec.ofChange fnExactTagLessSpec)

/-- ITS FALSE NEIGHBOUR: 'it returns false'. Refute it at one input. -/
def fnExactTagLessWrong : ChangeSpec := { name := "fnExactTagLess", fn := fun _ => fun
  | [d1, d2] => { results := [.lit (.bool false)], args := [d1, d2] }
  | _ => none }
def FnExactTagLessWrongFalsely : Prop := fnExactTagLessRow.holds Try.pinned (OpenSpec.ofChange fnExactTagLessWrong)

/-- 'laws.FnExactTagMax': WHATEVER THE INPUT: true; the input reads as it did. -/
def fnExactTagMaxSpec : ChangeSpec := { name := "fnExactTagMax", fn := fun _ => fun
  | [d1, d2] => { results := [.lit (.bool true)], args := [d1, d2] }
  | _ => none }
def fnExactTagMaxRow : OpenClaim := { program := "ytnblnafajlnofaa", sum := "8759f411b44e4f8006c8abe374bb50f6e30b973e6f5853d0572c02e3366f1115", func := "loop.example/confluence/laws.FnExactTagMax", spec := "fnExactTagMax", apart := false }
def FnExactTagMaxSaid : Prop := fnExactTagMaxRow.holds Try.pinned (OpenSpec.ofChange fnExactTagMaxSpec)

/-- ITS FALSE NEIGHBOUR: 'it returns false'. Refute it at one input. -/
def fnExactTagMaxWrong : ChangeSpec := { name := "fnExactTagMax", fn := fun _ => fun
  | [d1, d2] => { results := [.lit (.bool false)], args := [d1, d2] }
  | _ => none }
def FnExactTagMaxWrongFalsely : Prop := fnExactTagMaxRow.holds Try.pinned (OpenSpec.ofChange fnExactTagMaxWrong)

/-- 'laws.FnExactPastOk': WHATEVER THE INPUT: true; the input reads as it did. -/
def fnExactPastOkSpec : ChangeSpec := { name := "fnExactPastOk", fn := fun _ => fun
  | [d] => { results := [.lit (.bool true)], args := [d] }
  | _ => none }
def fnExactPastOkRow : OpenClaim := { program := "ytnblnafajlnofaa", sum := "8759f411b44e4f8006c8abe374bb50f6e30b973e6f5853d0572c02e3366f1115", func := "loop.example/confluence/laws.FnExactPastOk", spec := "fnExactPastOk", apart := false }
def FnExactPastOkSaid : Prop := fnExactPastOkRow.holds Try.pinned (OpenSpec.ofChange fnExactPastOkSpec)

/-- ITS FALSE NEIGHBOUR: 'it returns false'. Refute it at one input. -/
def fnExactPastOkWrong : ChangeSpec := { name := "fnExactPastOk", fn := fun _ => fun
  | [d] => { results := [.lit (.bool false)], args := [d] }
  | _ => none }
def FnExactPastOkWrongFalsely : Prop := fnExactPastOkRow.holds Try.pinned (OpenSpec.ofChange fnExactPastOkWrong)

/-- 'laws.FnExactPastNone': WHATEVER THE INPUT: true; the input reads as it did. -/
def fnExactPastNoneSpec : ChangeSpec := { name := "fnExactPastNone", fn := fun _ => fun
  | [] => { results := [.lit (.bool true)], args := [] }
  | _ => none }
def fnExactPastNoneRow : OpenClaim := { program := "ytnblnafajlnofaa", sum := "8759f411b44e4f8006c8abe374bb50f6e30b973e6f5853d0572c02e3366f1115", func := "loop.example/confluence/laws.FnExactPastNone", spec := "fnExactPastNone", apart := false }
def FnExactPastNoneSaid : Prop := fnExactPastNoneRow.holds Try.pinned (OpenSpec.ofChange fnExactPastNoneSpec)

/-- ITS FALSE NEIGHBOUR: 'it returns false'. Refute it at one input. -/
def fnExactPastNoneWrong : ChangeSpec := { name := "fnExactPastNone", fn := fun _ => fun
  | [] => { results := [.lit (.bool false)], args := [] }
  | _ => none }
def FnExactPastNoneWrongFalsely : Prop := fnExactPastNoneRow.holds Try.pinned (OpenSpec.ofChange fnExactPastNoneWrong)

/-- 'laws.FnExactPastJoin': WHATEVER THE INPUT: true; the input reads as it did. -/
def fnExactPastJoinSpec : ChangeSpec := { name := "fnExactPastJoin", fn := fun _ => fun
  | [d1, d2] => { results := [.lit (.bool true)], args := [d1, d2] }
  | _ => none }
def fnExactPastJoinRow : OpenClaim := { program := "ytnblnafajlnofaa", sum := "8759f411b44e4f8006c8abe374bb50f6e30b973e6f5853d0572c02e3366f1115", func := "loop.example/confluence/laws.FnExactPastJoin", spec := "fnExactPastJoin", apart := false }
def FnExactPastJoinSaid : Prop := fnExactPastJoinRow.holds Try.pinned (OpenSpec.ofChange fnExactPastJoinSpec)

/-- ITS FALSE NEIGHBOUR: 'it returns false'. Refute it at one input. -/
def fnExactPastJoinWrong : ChangeSpec := { name := "fnExactPastJoin", fn := fun _ => fun
  | [d1, d2] => { results := [.lit (.bool false)], args := [d1, d2] }
  | _ => none }
def FnExactPastJoinWrongFalsely : Prop := fnExactPastJoinRow.holds Try.pinned (OpenSpec.ofChange fnExactPastJoinWrong)

/-- 'laws.FnExactPastWithin': WHATEVER THE INPUT: true; the input reads as it did. -/
def fnExactPastWithinSpec : ChangeSpec := { name := "fnExactPastWithin", fn := fun _ => fun
  | [d1, d2] => { results := [.lit (.bool true)], args := [d1, d2] }
  | _ => none }
def fnExactPastWithinRow : OpenClaim := { program := "ytnblnafajlnofaa", sum := "8759f411b44e4f8006c8abe374bb50f6e30b973e6f5853d0572c02e3366f1115", func := "loop.example/confluence/laws.FnExactPastWithin", spec := "fnExactPastWithin", apart := false }
def FnExactPastWithinSaid : Prop := fnExactPastWithinRow.holds Try.pinned (OpenSpec.ofChange fnExactPastWithinSpec)

/-- ITS FALSE NEIGHBOUR: 'it returns false'. Refute it at one input. -/
def fnExactPastWithinWrong : ChangeSpec := { name := "fnExactPastWithin", fn := fun _ => fun
  | [d1, d2] => { results := [.lit (.bool false)], args := [d1, d2] }
  | _ => none }
def FnExactPastWithinWrongFalsely : Prop := fnExactPastWithinRow.holds Try.pinned (OpenSpec.ofChange fnExactPastWithinWrong)

/-- 'laws.FnExactVerOk': WHATEVER THE INPUT: true; the input reads as it did. -/
def fnExactVerOkSpec : ChangeSpec := { name := "fnExactVerOk", fn := fun _ => fun
  | [d] => { results := [.lit (.bool true)], args := [d] }
  | _ => none }
def fnExactVerOkRow : OpenClaim := { program := "ytnblnafajlnofaa", sum := "8759f411b44e4f8006c8abe374bb50f6e30b973e6f5853d0572c02e3366f1115", func := "loop.example/confluence/laws.FnExactVerOk", spec := "fnExactVerOk", unfollowed := true, recurses := true, apart := false }
def FnExactVerOkSaid : Prop := fnExactVerOkRow.holds Try.pinned (OpenSpec.ofChange fnExactVerOkSpec)

/-- ITS FALSE NEIGHBOUR: 'it returns false'. Refute it at one input. -/
def fnExactVerOkWrong : ChangeSpec := { name := "fnExactVerOk", fn := fun _ => fun
  | [d] => { results := [.lit (.bool false)], args := [d] }
  | _ => none }
def FnExactVerOkWrongFalsely : Prop := fnExactVerOkRow.holds Try.pinned (OpenSpec.ofChange fnExactVerOkWrong)

/-- 'laws.FnExactStoreOk': WHATEVER THE INPUT: true; the input reads as it did. -/
def fnExactStoreOkSpec : ChangeSpec := { name := "fnExactStoreOk", fn := fun _ => fun
  | [d] => { results := [.lit (.bool true)], args := [d] }
  | _ => none }
def fnExactStoreOkRow : OpenClaim := { program := "ytnblnafajlnofaa", sum := "8759f411b44e4f8006c8abe374bb50f6e30b973e6f5853d0572c02e3366f1115", func := "loop.example/confluence/laws.FnExactStoreOk", spec := "fnExactStoreOk", unfollowed := true, recurses := true, apart := false }
def FnExactStoreOkSaid : Prop := fnExactStoreOkRow.holds Try.pinned (OpenSpec.ofChange fnExactStoreOkSpec)

/-- ITS FALSE NEIGHBOUR: 'it returns false'. Refute it at one input. -/
def fnExactStoreOkWrong : ChangeSpec := { name := "fnExactStoreOk", fn := fun _ => fun
  | [d] => { results := [.lit (.bool false)], args := [d] }
  | _ => none }
def FnExactStoreOkWrongFalsely : Prop := fnExactStoreOkRow.holds Try.pinned (OpenSpec.ofChange fnExactStoreOkWrong)

/-- 'laws.FnExactStoreNew': WHATEVER THE INPUT: true; the input reads as it did. -/
def fnExactStoreNewSpec : ChangeSpec := { name := "fnExactStoreNew", fn := fun _ => fun
  | [] => { results := [.lit (.bool true)], args := [] }
  | _ => none }
def fnExactStoreNewRow : OpenClaim := { program := "ytnblnafajlnofaa", sum := "8759f411b44e4f8006c8abe374bb50f6e30b973e6f5853d0572c02e3366f1115", func := "loop.example/confluence/laws.FnExactStoreNew", spec := "fnExactStoreNew", apart := false }
def FnExactStoreNewSaid : Prop := fnExactStoreNewRow.holds Try.pinned (OpenSpec.ofChange fnExactStoreNewSpec)

/-- ITS FALSE NEIGHBOUR: 'it returns false'. Refute it at one input. -/
def fnExactStoreNewWrong : ChangeSpec := { name := "fnExactStoreNew", fn := fun _ => fun
  | [] => { results := [.lit (.bool false)], args := [] }
  | _ => none }
def FnExactStoreNewWrongFalsely : Prop := fnExactStoreNewRow.holds Try.pinned (OpenSpec.ofChange fnExactStoreNewWrong)

/-- 'laws.FnExactStoreAdd': WHATEVER THE INPUT: true; the input reads as it did. -/
def fnExactStoreAddSpec : ChangeSpec := { name := "fnExactStoreAdd", fn := fun _ => fun
  | [d1, d2] => { results := [.lit (.bool true)], args := [d1, d2] }
  | _ => none }
def fnExactStoreAddRow : OpenClaim := { program := "ytnblnafajlnofaa", sum := "8759f411b44e4f8006c8abe374bb50f6e30b973e6f5853d0572c02e3366f1115", func := "loop.example/confluence/laws.FnExactStoreAdd", spec := "fnExactStoreAdd", unfollowed := true, recurses := true, apart := false }
def FnExactStoreAddSaid : Prop := fnExactStoreAddRow.holds Try.pinned (OpenSpec.ofChange fnExactStoreAddSpec)

/-- ITS FALSE NEIGHBOUR: 'it returns false'. Refute it at one input. -/
def fnExactStoreAddWrong : ChangeSpec := { name := "fnExactStoreAdd", fn := fun _ => fun
  | [d1, d2] => { results := [.lit (.bool false)], args := [d1, d2] }
  | _ => none }
def FnExactStoreAddWrongFalsely : Prop := fnExactStoreAddRow.holds Try.pinned (OpenSpec.ofChange fnExactStoreAddWrong)

/-- 'laws.FnExactStoreTags': WHATEVER THE INPUT: true; the input reads as it did. -/
def fnExactStoreTagsSpec : ChangeSpec := { name := "fnExactStoreTags", fn := fun _ => fun
  | [d] => { results := [.lit (.bool true)], args := [d] }
  | _ => none }
def fnExactStoreTagsRow : OpenClaim := { program := "ytnblnafajlnofaa", sum := "8759f411b44e4f8006c8abe374bb50f6e30b973e6f5853d0572c02e3366f1115", func := "loop.example/confluence/laws.FnExactStoreTags", spec := "fnExactStoreTags", unfollowed := true, recurses := true, apart := false }
def FnExactStoreTagsSaid : Prop := fnExactStoreTagsRow.holds Try.pinned (OpenSpec.ofChange fnExactStoreTagsSpec)

/-- ITS FALSE NEIGHBOUR: 'it returns false'. Refute it at one input. -/
def fnExactStoreTagsWrong : ChangeSpec := { name := "fnExactStoreTags", fn := fun _ => fun
  | [d] => { results := [.lit (.bool false)], args := [d] }
  | _ => none }
def FnExactStoreTagsWrongFalsely : Prop := fnExactStoreTagsRow.holds Try.pinned (OpenSpec.ofChange fnExactStoreTagsWrong)

/-- 'laws.FnExactStoreJoin': WHATEVER THE INPUT: true; the input reads as it did. -/
def fnExactStoreJoinSpec : ChangeSpec := { name := "fnExactStoreJoin", fn := fun _ => fun
  | [d1, d2] => { results := [.lit (.bool true)], args := [d1, d2] }
  | _ => none }
def fnExactStoreJoinRow : OpenClaim := { program := "ytnblnafajlnofaa", sum := "8759f411b44e4f8006c8abe374bb50f6e30b973e6f5853d0572c02e3366f1115", func := "loop.example/confluence/laws.FnExactStoreJoin", spec := "fnExactStoreJoin", unfollowed := true, recurses := true, apart := false }
def FnExactStoreJoinSaid : Prop := fnExactStoreJoinRow.holds Try.pinned (OpenSpec.ofChange fnExactStoreJoinSpec)

/-- ITS FALSE NEIGHBOUR: 'it returns false'. Refute it at one input. -/
def fnExactStoreJoinWrong : ChangeSpec := { name := "fnExactStoreJoin", fn := fun _ => fun
  | [d1, d2] => { results := [.lit (.bool false)], args := [d1, d2] }
  | _ => none }
def FnExactStoreJoinWrongFalsely : Prop := fnExactStoreJoinRow.holds Try.pinned (OpenSpec.ofChange fnExactStoreJoinWrong)

/-- 'laws.FnExactStoreClosed': WHATEVER THE INPUT: true; the input reads as it did. -/
def fnExactStoreClosedSpec : ChangeSpec := { name := "fnExactStoreClosed", fn := fun _ => fun
  | [d] => { results := [.lit (.bool true)], args := [d] }
  | _ => none }
def fnExactStoreClosedRow : OpenClaim := { program := "ytnblnafajlnofaa", sum := "8759f411b44e4f8006c8abe374bb50f6e30b973e6f5853d0572c02e3366f1115", func := "loop.example/confluence/laws.FnExactStoreClosed", spec := "fnExactStoreClosed", unfollowed := true, recurses := true, apart := false }
def FnExactStoreClosedSaid : Prop := fnExactStoreClosedRow.holds Try.pinned (OpenSpec.ofChange fnExactStoreClosedSpec)

/-- ITS FALSE NEIGHBOUR: 'it returns false'. Refute it at one input. -/
def fnExactStoreClosedWrong : ChangeSpec := { name := "fnExactStoreClosed", fn := fun _ => fun
  | [d] => { results := [.lit (.bool false)], args := [d] }
  | _ => none }
def FnExactStoreClosedWrongFalsely : Prop := fnExactStoreClosedRow.holds Try.pinned (OpenSpec.ofChange fnExactStoreClosedWrong)

/- THE SECOND FORM. 'bulk': how many values and letters a reading holds, each counted each time it is reached (what is shared counts as often as it is met; a slice's spare places count too). A statement '..UptoSaid' is the law's where the arguments, and the package variables that the reading takes, are together of bulk at most 1048576: NARROWER than '..Said'. Prove '..Said' where nothing that the law and all that it calls make is longer than what came in: it says more and counts as full. Else prove '..UptoSaid'. A law counts once. -/
mutual
def uptoBulk {H : Type} : DataW H → Nat
  | .lit (.string bytes) => bytes.length + 1
  | .lit _ => 1
  | .nil => 1
  | .ptr d => uptoBulk d + 1
  | .slice elems spare => uptoBulkAll elems + uptoBulkAll spare + 1
  | .agg parts => uptoBulkAll parts + 1
  | .iface _ d => uptoBulk d + 1
  | .map entries => uptoBulkEntries entries + 1
  | .held _ => 1
def uptoBulkAll {H : Type} : List (DataW H) → Nat
  | [] => 0
  | d :: r => uptoBulk d + uptoBulkAll r
def uptoBulkEntries {H : Type} : List (Lit × DataW H) → Nat
  | [] => 0
  | x :: r => uptoBulkEntry x + uptoBulkEntries r
def uptoBulkEntry {H : Type} : Lit × DataW H → Nat
  | (.string bytes, d) => bytes.length + uptoBulk d + 1
  | (_, d) => uptoBulk d + 1
 end
def uptoSmall : (H : Type) → List (DataW H) → Bool := fun _ ds => decide (uptoBulkAll ds ≤ 1048576)
def OpenSpec.upto (s : _root_.Go.ChangeSpec) : _root_.Go.OpenSpec := { _root_.Go.OpenSpec.ofChange s with cond := some uptoSmall }

/-- 'laws.FnTagLess', WHERE WHAT IT READS IS OF BULK AT MOST 1048576: true; the input reads as it did. -/
def fnTagLessUptoRow : OpenClaim := { program := "ytnblnafajlnofaa", sum := "8759f411b44e4f8006c8abe374bb50f6e30b973e6f5853d0572c02e3366f1115", func := "loop.example/confluence/laws.FnTagLess", spec := "fnTagLess", apart := false, narrowed := true }
def FnTagLessUptoSaid : Prop := fnTagLessUptoRow.holds Try.pinned (OpenSpec.upto fnTagLessSpec)

/-- 'laws.FnTagMax', WHERE WHAT IT READS IS OF BULK AT MOST 1048576: true; the input reads as it did. -/
def fnTagMaxUptoRow : OpenClaim := { program := "ytnblnafajlnofaa", sum := "8759f411b44e4f8006c8abe374bb50f6e30b973e6f5853d0572c02e3366f1115", func := "loop.example/confluence/laws.FnTagMax", spec := "fnTagMax", apart := false, narrowed := true }
def FnTagMaxUptoSaid : Prop := fnTagMaxUptoRow.holds Try.pinned (OpenSpec.upto fnTagMaxSpec)

/-- 'laws.FnPastJoin', WHERE WHAT IT READS IS OF BULK AT MOST 1048576: true; the input reads as it did. -/
def fnPastJoinUptoRow : OpenClaim := { program := "ytnblnafajlnofaa", sum := "8759f411b44e4f8006c8abe374bb50f6e30b973e6f5853d0572c02e3366f1115", func := "loop.example/confluence/laws.FnPastJoin", spec := "fnPastJoin", apart := false, narrowed := true }
def FnPastJoinUptoSaid : Prop := fnPastJoinUptoRow.holds Try.pinned (OpenSpec.upto fnPastJoinSpec)

/-- 'laws.FnPastWithin', WHERE WHAT IT READS IS OF BULK AT MOST 1048576: true; the input reads as it did. -/
def fnPastWithinUptoRow : OpenClaim := { program := "ytnblnafajlnofaa", sum := "8759f411b44e4f8006c8abe374bb50f6e30b973e6f5853d0572c02e3366f1115", func := "loop.example/confluence/laws.FnPastWithin", spec := "fnPastWithin", apart := false, narrowed := true }
def FnPastWithinUptoSaid : Prop := fnPastWithinUptoRow.holds Try.pinned (OpenSpec.upto fnPastWithinSpec)

/-- 'laws.FnExactTagOk', WHERE WHAT IT READS IS OF BULK AT MOST 1048576: true; the input reads as it did. -/
def fnExactTagOkUptoRow : OpenClaim := { program := "ytnblnafajlnofaa", sum := "8759f411b44e4f8006c8abe374bb50f6e30b973e6f5853d0572c02e3366f1115", func := "loop.example/confluence/laws.FnExactTagOk", spec := "fnExactTagOk", apart := false, narrowed := true }
def FnExactTagOkUptoSaid : Prop := fnExactTagOkUptoRow.holds Try.pinned (OpenSpec.upto fnExactTagOkSpec)

/-- 'laws.FnExactTagLess', WHERE WHAT IT READS IS OF BULK AT MOST 1048576: true; the input reads as it did. -/
def fnExactTagLessUptoRow : OpenClaim := { program := "ytnblnafajlnofaa", sum := "8759f411b44e4f8006c8abe374bb50f6e30b973e6f5853d0572c02e3366f1115", func := "loop.example/confluence/laws.FnExactTagLess", spec := "fnExactTagLess", apart := false, narrowed := true }
def FnExactTagLessUptoSaid : Prop := fnExactTagLessUptoRow.holds Try.pinned (OpenSpec.upto fnExactTagLessSpec)

/-- 'laws.FnExactTagMax', WHERE WHAT IT READS IS OF BULK AT MOST 1048576: true; the input reads as it did. -/
def fnExactTagMaxUptoRow : OpenClaim := { program := "ytnblnafajlnofaa", sum := "8759f411b44e4f8006c8abe374bb50f6e30b973e6f5853d0572c02e3366f1115", func := "loop.example/confluence/laws.FnExactTagMax", spec := "fnExactTagMax", apart := false, narrowed := true }
def FnExactTagMaxUptoSaid : Prop := fnExactTagMaxUptoRow.holds Try.pinned (OpenSpec.upto fnExactTagMaxSpec)

/-- 'laws.FnExactPastOk', WHERE WHAT IT READS IS OF BULK AT MOST 1048576: true; the input reads as it did. -/
def fnExactPastOkUptoRow : OpenClaim := { program := "ytnblnafajlnofaa", sum := "8759f411b44e4f8006c8abe374bb50f6e30b973e6f5853d0572c02e3366f1115", func := "loop.example/confluence/laws.FnExactPastOk", spec := "fnExactPastOk", apart := false, narrowed := true }
def FnExactPastOkUptoSaid : Prop := fnExactPastOkUptoRow.holds Try.pinned (OpenSpec.upto fnExactPastOkSpec)

/-- 'laws.FnExactPastNone', WHERE WHAT IT READS IS OF BULK AT MOST 1048576: true; the input reads as it did. -/
def fnExactPastNoneUptoRow : OpenClaim := { program := "ytnblnafajlnofaa", sum := "8759f411b44e4f8006c8abe374bb50f6e30b973e6f5853d0572c02e3366f1115", func := "loop.example/confluence/laws.FnExactPastNone", spec := "fnExactPastNone", apart := false, narrowed := true }
def FnExactPastNoneUptoSaid : Prop := fnExactPastNoneUptoRow.holds Try.pinned (OpenSpec.upto fnExactPastNoneSpec)

/-- 'laws.FnExactPastJoin', WHERE WHAT IT READS IS OF BULK AT MOST 1048576: true; the input reads as it did. -/
def fnExactPastJoinUptoRow : OpenClaim := { program := "ytnblnafajlnofaa", sum := "8759f411b44e4f8006c8abe374bb50f6e30b973e6f5853d0572c02e3366f1115", func := "loop.example/confluence/laws.FnExactPastJoin", spec := "fnExactPastJoin", apart := false, narrowed := true }
def FnExactPastJoinUptoSaid : Prop := fnExactPastJoinUptoRow.holds Try.pinned (OpenSpec.upto fnExactPastJoinSpec)

/-- 'laws.FnExactPastWithin', WHERE WHAT IT READS IS OF BULK AT MOST 1048576: true; the input reads as it did. -/
def fnExactPastWithinUptoRow : OpenClaim := { program := "ytnblnafajlnofaa", sum := "8759f411b44e4f8006c8abe374bb50f6e30b973e6f5853d0572c02e3366f1115", func := "loop.example/confluence/laws.FnExactPastWithin", spec := "fnExactPastWithin", apart := false, narrowed := true }
def FnExactPastWithinUptoSaid : Prop := fnExactPastWithinUptoRow.holds Try.pinned (OpenSpec.upto fnExactPastWithinSpec)

/-- 'laws.FnExactVerOk', WHERE WHAT IT READS IS OF BULK AT MOST 1048576: true; the input reads as it did. -/
def fnExactVerOkUptoRow : OpenClaim := { program := "ytnblnafajlnofaa", sum := "8759f411b44e4f8006c8abe374bb50f6e30b973e6f5853d0572c02e3366f1115", func := "loop.example/confluence/laws.FnExactVerOk", spec := "fnExactVerOk", unfollowed := true, recurses := true, apart := false, narrowed := true }
def FnExactVerOkUptoSaid : Prop := fnExactVerOkUptoRow.holds Try.pinned (OpenSpec.upto fnExactVerOkSpec)

/-- 'laws.FnExactStoreOk', WHERE WHAT IT READS IS OF BULK AT MOST 1048576: true; the input reads as it did. -/
def fnExactStoreOkUptoRow : OpenClaim := { program := "ytnblnafajlnofaa", sum := "8759f411b44e4f8006c8abe374bb50f6e30b973e6f5853d0572c02e3366f1115", func := "loop.example/confluence/laws.FnExactStoreOk", spec := "fnExactStoreOk", unfollowed := true, recurses := true, apart := false, narrowed := true }
def FnExactStoreOkUptoSaid : Prop := fnExactStoreOkUptoRow.holds Try.pinned (OpenSpec.upto fnExactStoreOkSpec)

/-- 'laws.FnExactStoreNew', WHERE WHAT IT READS IS OF BULK AT MOST 1048576: true; the input reads as it did. -/
def fnExactStoreNewUptoRow : OpenClaim := { program := "ytnblnafajlnofaa", sum := "8759f411b44e4f8006c8abe374bb50f6e30b973e6f5853d0572c02e3366f1115", func := "loop.example/confluence/laws.FnExactStoreNew", spec := "fnExactStoreNew", apart := false, narrowed := true }
def FnExactStoreNewUptoSaid : Prop := fnExactStoreNewUptoRow.holds Try.pinned (OpenSpec.upto fnExactStoreNewSpec)

/-- 'laws.FnExactStoreAdd', WHERE WHAT IT READS IS OF BULK AT MOST 1048576: true; the input reads as it did. -/
def fnExactStoreAddUptoRow : OpenClaim := { program := "ytnblnafajlnofaa", sum := "8759f411b44e4f8006c8abe374bb50f6e30b973e6f5853d0572c02e3366f1115", func := "loop.example/confluence/laws.FnExactStoreAdd", spec := "fnExactStoreAdd", unfollowed := true, recurses := true, apart := false, narrowed := true }
def FnExactStoreAddUptoSaid : Prop := fnExactStoreAddUptoRow.holds Try.pinned (OpenSpec.upto fnExactStoreAddSpec)

/-- 'laws.FnExactStoreTags', WHERE WHAT IT READS IS OF BULK AT MOST 1048576: true; the input reads as it did. -/
def fnExactStoreTagsUptoRow : OpenClaim := { program := "ytnblnafajlnofaa", sum := "8759f411b44e4f8006c8abe374bb50f6e30b973e6f5853d0572c02e3366f1115", func := "loop.example/confluence/laws.FnExactStoreTags", spec := "fnExactStoreTags", unfollowed := true, recurses := true, apart := false, narrowed := true }
def FnExactStoreTagsUptoSaid : Prop := fnExactStoreTagsUptoRow.holds Try.pinned (OpenSpec.upto fnExactStoreTagsSpec)

/-- 'laws.FnExactStoreJoin', WHERE WHAT IT READS IS OF BULK AT MOST 1048576: true; the input reads as it did. -/
def fnExactStoreJoinUptoRow : OpenClaim := { program := "ytnblnafajlnofaa", sum := "8759f411b44e4f8006c8abe374bb50f6e30b973e6f5853d0572c02e3366f1115", func := "loop.example/confluence/laws.FnExactStoreJoin", spec := "fnExactStoreJoin", unfollowed := true, recurses := true, apart := false, narrowed := true }
def FnExactStoreJoinUptoSaid : Prop := fnExactStoreJoinUptoRow.holds Try.pinned (OpenSpec.upto fnExactStoreJoinSpec)

/-- 'laws.FnExactStoreClosed', WHERE WHAT IT READS IS OF BULK AT MOST 1048576: true; the input reads as it did. -/
def fnExactStoreClosedUptoRow : OpenClaim := { program := "ytnblnafajlnofaa", sum := "8759f411b44e4f8006c8abe374bb50f6e30b973e6f5853d0572c02e3366f1115", func := "loop.example/confluence/laws.FnExactStoreClosed", spec := "fnExactStoreClosed", unfollowed := true, recurses := true, apart := false, narrowed := true }
def FnExactStoreClosedUptoSaid : Prop := fnExactStoreClosedUptoRow.holds Try.pinned (OpenSpec.upto fnExactStoreClosedSpec)

end Rows
end Go.Proofs.Ytnblnafajlnofaa
