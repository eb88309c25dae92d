/-
  No cell of these rows narrows 'for every input' (looked for: loops, veiled, ifaces, maps, wideKeys, modest, calm, conditions, laid).
  DERIVED. THE GIVEN ROWS OF THIS SEAT. 6 by the template 'for every input the law returns true; each argument reads behind the call as it read before'; 0 by the template 'total and deterministic' (their statements: YtkkjhfgjjakmfaaTotals.lean).
  GIVEN WITH THE SEED: the statements are not yours to turn. If you find one false, say at which input.
  Laid BY PROGRAM, IN A SANDBOX (cutbox-rows.mjs): the forced cells as the released guide's own fill.sh prints them over the translation f5b360eed2979632… (all of the seat's roots in one cut). By AI agents, Wed Nov 11 2026. No macro, syntax, notation, axiom, sorry.
-/
import Derived.Test.YtkkjhfgjjakmfaaChecked
import GoSem.Claim
import GoSem.ClaimJoined
import GoSem.ClaimMapViews
import Derived.JoinedTies
import Derived.KernelRfl
namespace Go.Proofs.Ytkkjhfgjjakmfaa
/- THE CELL 'sum', in the pinned program and in every row, IS THE sha256 OF THE DUMP (.gsa) THAT YtkkjhfgjjakmfaaProg.lean LOADS. Nothing in Lean hashes anything: it is a label: what it is worth is what the hold of that sum in a sandbox is worth. -/
noncomputable def Try.pinned : Pinned := { name := "ytkkjhfgjjakmfaa", sum := "f5b360eed29796321bf2c62f291b898139b3e671aa9b6d2e477eb33a87a78c3b", checked := Try.checked }
namespace Rows
def none {H : Type} : Left H := { results := [], args := [] }

/-- 'laws.FnPastJoin': WHATEVER THE INPUT: true; the input reads as it did. -/
def fnPastJoinSpec : ChangeSpec := { name := "fnPastJoin", fn := fun _ => fun
  | [d] => { results := [.lit (.bool true)], args := [d] }
  | _ => none }
def fnPastJoinRow : OpenClaim := { program := "ytkkjhfgjjakmfaa", sum := "f5b360eed29796321bf2c62f291b898139b3e671aa9b6d2e477eb33a87a78c3b", func := "loop.example/confluence/laws.FnPastJoin", spec := "fnPastJoin", apart := false }
def FnPastJoinSaid : Prop := fnPastJoinRow.holds Try.pinned (OpenSpec.ofChange fnPastJoinSpec)

/-- ITS FALSE NEIGHBOUR: 'it returns false'. Refute it at one input. -/
def fnPastJoinWrong : ChangeSpec := { name := "fnPastJoin", fn := fun _ => fun
  | [d] => { results := [.lit (.bool false)], args := [d] }
  | _ => none }
def FnPastJoinWrongFalsely : Prop := fnPastJoinRow.holds Try.pinned (OpenSpec.ofChange fnPastJoinWrong)

/-- 'laws.FnPastWithin': WHATEVER THE INPUT: true; the input reads as it did. -/
def fnPastWithinSpec : ChangeSpec := { name := "fnPastWithin", fn := fun _ => fun
  | [d] => { results := [.lit (.bool true)], args := [d] }
  | _ => none }
def fnPastWithinRow : OpenClaim := { program := "ytkkjhfgjjakmfaa", sum := "f5b360eed29796321bf2c62f291b898139b3e671aa9b6d2e477eb33a87a78c3b", func := "loop.example/confluence/laws.FnPastWithin", spec := "fnPastWithin", apart := false }
def FnPastWithinSaid : Prop := fnPastWithinRow.holds Try.pinned (OpenSpec.ofChange fnPastWithinSpec)

/-- ITS FALSE NEIGHBOUR: 'it returns false'. Refute it at one input. -/
def fnPastWithinWrong : ChangeSpec := { name := "fnPastWithin", fn := fun _ => fun
  | [d] => { results := [.lit (.bool false)], args := [d] }
  | _ => none }
def FnPastWithinWrongFalsely : Prop := fnPastWithinRow.holds Try.pinned (OpenSpec.ofChange fnPastWithinWrong)

/-- 'laws.FnExactStoreAdd': WHATEVER THE INPUT: true; the input reads as it did. -/
def fnExactStoreAddSpec : ChangeSpec := { name := "fnExactStoreAdd", fn := fun _ => fun
  | [d1, d2] => { results := [.lit (.bool true)], args := [d1, d2] }
  | _ => none }
def fnExactStoreAddRow : OpenClaim := { program := "ytkkjhfgjjakmfaa", sum := "f5b360eed29796321bf2c62f291b898139b3e671aa9b6d2e477eb33a87a78c3b", func := "loop.example/confluence/laws.FnExactStoreAdd", spec := "fnExactStoreAdd", unfollowed := true, recurses := true, apart := false }
def FnExactStoreAddSaid : Prop := fnExactStoreAddRow.holds Try.pinned (OpenSpec.ofChange fnExactStoreAddSpec)

/-- ITS FALSE NEIGHBOUR: 'it returns false'. Refute it at one input. -/
def fnExactStoreAddWrong : ChangeSpec := { name := "fnExactStoreAdd", fn := fun _ => fun
  | [d1, d2] => { results := [.lit (.bool false)], args := [d1, d2] }
  | _ => none }
def FnExactStoreAddWrongFalsely : Prop := fnExactStoreAddRow.holds Try.pinned (OpenSpec.ofChange fnExactStoreAddWrong)

/-- 'laws.FnExactStoreTags': WHATEVER THE INPUT: true; the input reads as it did. -/
def fnExactStoreTagsSpec : ChangeSpec := { name := "fnExactStoreTags", fn := fun _ => fun
  | [d] => { results := [.lit (.bool true)], args := [d] }
  | _ => none }
def fnExactStoreTagsRow : OpenClaim := { program := "ytkkjhfgjjakmfaa", sum := "f5b360eed29796321bf2c62f291b898139b3e671aa9b6d2e477eb33a87a78c3b", func := "loop.example/confluence/laws.FnExactStoreTags", spec := "fnExactStoreTags", unfollowed := true, recurses := true, apart := false }
def FnExactStoreTagsSaid : Prop := fnExactStoreTagsRow.holds Try.pinned (OpenSpec.ofChange fnExactStoreTagsSpec)

/-- ITS FALSE NEIGHBOUR: 'it returns false'. Refute it at one input. -/
def fnExactStoreTagsWrong : ChangeSpec := { name := "fnExactStoreTags", fn := fun _ => fun
  | [d] => { results := [.lit (.bool false)], args := [d] }
  | _ => none }
def FnExactStoreTagsWrongFalsely : Prop := fnExactStoreTagsRow.holds Try.pinned (OpenSpec.ofChange fnExactStoreTagsWrong)

/-- 'laws.FnExactStoreJoin': WHATEVER THE INPUT: true; the input reads as it did. -/
def fnExactStoreJoinSpec : ChangeSpec := { name := "fnExactStoreJoin", fn := fun _ => fun
  | [d1, d2] => { results := [.lit (.bool true)], args := [d1, d2] }
  | _ => none }
def fnExactStoreJoinRow : OpenClaim := { program := "ytkkjhfgjjakmfaa", sum := "f5b360eed29796321bf2c62f291b898139b3e671aa9b6d2e477eb33a87a78c3b", func := "loop.example/confluence/laws.FnExactStoreJoin", spec := "fnExactStoreJoin", unfollowed := true, recurses := true, apart := false }
def FnExactStoreJoinSaid : Prop := fnExactStoreJoinRow.holds Try.pinned (OpenSpec.ofChange fnExactStoreJoinSpec)

/-- ITS FALSE NEIGHBOUR: 'it returns false'. Refute it at one input. -/
def fnExactStoreJoinWrong : ChangeSpec := { name := "fnExactStoreJoin", fn := fun _ => fun
  | [d1, d2] => { results := [.lit (.bool false)], args := [d1, d2] }
  | _ => none }
def FnExactStoreJoinWrongFalsely : Prop := fnExactStoreJoinRow.holds Try.pinned (OpenSpec.ofChange fnExactStoreJoinWrong)

/-- 'laws.FnExactChainNew': WHATEVER THE INPUT: true; the input reads as it did. -/
def fnExactChainNewSpec : ChangeSpec := { name := "fnExactChainNew", fn := fun _ => fun
  | [d] => { results := [.lit (.bool true)], args := [d] }
  | _ => none }
def fnExactChainNewRow : OpenClaim := { program := "ytkkjhfgjjakmfaa", sum := "f5b360eed29796321bf2c62f291b898139b3e671aa9b6d2e477eb33a87a78c3b", func := "loop.example/confluence/laws.FnExactChainNew", spec := "fnExactChainNew", apart := false }
def FnExactChainNewSaid : Prop := fnExactChainNewRow.holds Try.pinned (OpenSpec.ofChange fnExactChainNewSpec)

/-- ITS FALSE NEIGHBOUR: 'it returns false'. Refute it at one input. -/
def fnExactChainNewWrong : ChangeSpec := { name := "fnExactChainNew", fn := fun _ => fun
  | [d] => { results := [.lit (.bool false)], args := [d] }
  | _ => none }
def FnExactChainNewWrongFalsely : Prop := fnExactChainNewRow.holds Try.pinned (OpenSpec.ofChange fnExactChainNewWrong)

/- THE SECOND FORM. 'bulk': how many values and letters a reading holds, each counted each time it is reached (what is shared counts as often as it is met; a slice's spare places count too). A statement '..UptoSaid' is the law's where the arguments, and the package variables that the reading takes, are together of bulk at most 1048576: NARROWER than '..Said'. Prove '..Said' where nothing that the law and all that it calls make is longer than what came in: it says more and counts as full. Else prove '..UptoSaid'. A law counts once. -/
mutual
def uptoBulk {H : Type} : DataW H → Nat
  | .lit (.string bytes) => bytes.length + 1
  | .lit _ => 1
  | .nil => 1
  | .ptr d => uptoBulk d + 1
  | .slice elems spare => uptoBulkAll elems + uptoBulkAll spare + 1
  | .agg parts => uptoBulkAll parts + 1
  | .iface _ d => uptoBulk d + 1
  | .map entries => uptoBulkEntries entries + 1
  | .held _ => 1
def uptoBulkAll {H : Type} : List (DataW H) → Nat
  | [] => 0
  | d :: r => uptoBulk d + uptoBulkAll r
def uptoBulkEntries {H : Type} : List (Lit × DataW H) → Nat
  | [] => 0
  | x :: r => uptoBulkEntry x + uptoBulkEntries r
def uptoBulkEntry {H : Type} : Lit × DataW H → Nat
  | (.string bytes, d) => bytes.length + uptoBulk d + 1
  | (_, d) => uptoBulk d + 1
 end
def uptoSmall : (H : Type) → List (DataW H) → Bool := fun _ ds => decide (uptoBulkAll ds ≤ 1048576)
def OpenSpec.upto (s : _root_.Go.ChangeSpec) : _root_.Go.OpenSpec := { _root_.Go.OpenSpec.ofChange s with cond := some uptoSmall }

/-- 'laws.FnPastJoin', WHERE WHAT IT READS IS OF BULK AT MOST 1048576: true; the input reads as it did. -/
def fnPastJoinUptoRow : OpenClaim := { program := "ytkkjhfgjjakmfaa", sum := "f5b360eed29796321bf2c62f291b898139b3e671aa9b6d2e477eb33a87a78c3b", func := "loop.example/confluence/laws.FnPastJoin", spec := "fnPastJoin", apart := false, narrowed := true }
def FnPastJoinUptoSaid : Prop := fnPastJoinUptoRow.holds Try.pinned (OpenSpec.upto fnPastJoinSpec)

/-- 'laws.FnPastWithin', WHERE WHAT IT READS IS OF BULK AT MOST 1048576: true; the input reads as it did. -/
def fnPastWithinUptoRow : OpenClaim := { program := "ytkkjhfgjjakmfaa", sum := "f5b360eed29796321bf2c62f291b898139b3e671aa9b6d2e477eb33a87a78c3b", func := "loop.example/confluence/laws.FnPastWithin", spec := "fnPastWithin", apart := false, narrowed := true }
def FnPastWithinUptoSaid : Prop := fnPastWithinUptoRow.holds Try.pinned (OpenSpec.upto fnPastWithinSpec)

/-- 'laws.FnExactStoreAdd', WHERE WHAT IT READS IS OF BULK AT MOST 1048576: true; the input reads as it did. -/
def fnExactStoreAddUptoRow : OpenClaim := { program := "ytkkjhfgjjakmfaa", sum := "f5b360eed29796321bf2c62f291b898139b3e671aa9b6d2e477eb33a87a78c3b", func := "loop.example/confluence/laws.FnExactStoreAdd", spec := "fnExactStoreAdd", unfollowed := true, recurses := true, apart := false, narrowed := true }
def FnExactStoreAddUptoSaid : Prop := fnExactStoreAddUptoRow.holds Try.pinned (OpenSpec.upto fnExactStoreAddSpec)

/-- 'laws.FnExactStoreTags', WHERE WHAT IT READS IS OF BULK AT MOST 1048576: true; the input reads as it did. -/
def fnExactStoreTagsUptoRow : OpenClaim := { program := "ytkkjhfgjjakmfaa", sum := "f5b360eed29796321bf2c62f291b898139b3e671aa9b6d2e477eb33a87a78c3b", func := "loop.example/confluence/laws.FnExactStoreTags", spec := "fnExactStoreTags", unfollowed := true, recurses := true, apart := false, narrowed := true }
def FnExactStoreTagsUptoSaid : Prop := fnExactStoreTagsUptoRow.holds Try.pinned (OpenSpec.upto fnExactStoreTagsSpec)

/-- 'laws.FnExactStoreJoin', WHERE WHAT IT READS IS OF BULK AT MOST 1048576: true; the input reads as it did. -/
def fnExactStoreJoinUptoRow : OpenClaim := { program := "ytkkjhfgjjakmfaa", sum := "f5b360eed29796321bf2c62f291b898139b3e671aa9b6d2e477eb33a87a78c3b", func := "loop.example/confluence/laws.FnExactStoreJoin", spec := "fnExactStoreJoin", unfollowed := true, recurses := true, apart := false, narrowed := true }
def FnExactStoreJoinUptoSaid : Prop := fnExactStoreJoinUptoRow.holds Try.pinned (OpenSpec.upto fnExactStoreJoinSpec)

/-- 'laws.FnExactChainNew', WHERE WHAT IT READS IS OF BULK AT MOST 1048576: true; the input reads as it did. -/
def fnExactChainNewUptoRow : OpenClaim := { program := "ytkkjhfgjjakmfaa", sum := "f5b360eed29796321bf2c62f291b898139b3e671aa9b6d2e477eb33a87a78c3b", func := "loop.example/confluence/laws.FnExactChainNew", spec := "fnExactChainNew", apart := false, narrowed := true }
def FnExactChainNewUptoSaid : Prop := fnExactChainNewUptoRow.holds Try.pinned (OpenSpec.upto fnExactChainNewSpec)

end Rows
end Go.Proofs.Ytkkjhfgjjakmfaa
