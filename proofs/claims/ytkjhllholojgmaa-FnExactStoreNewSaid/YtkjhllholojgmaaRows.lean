/-
  No cell of these rows narrows 'for every input' (looked for: loops, veiled, ifaces, maps, wideKeys, modest, calm, conditions, laid).
  DERIVED. THE GIVEN ROWS OF THIS SEAT. 8 by the template 'for every input the law returns true; each argument reads behind the call as it read before'; 0 by the template 'total and deterministic' (their statements: YtkjhllholojgmaaTotals.lean).
  GIVEN WITH THE SEED: the statements are not yours to turn. If you find one false, say at which input.
  Laid BY PROGRAM, IN A SANDBOX (cutbox-rows.mjs): the forced cells as the released guide's own fill.sh prints them over the translation dbd919451ee93f47… (all of the seat's roots in one cut). By AI agents, Wed Nov 11 2026. No macro, syntax, notation, axiom, sorry.
-/
import Derived.Test.YtkjhllholojgmaaChecked
import GoSem.Claim
import GoSem.ClaimJoined
import GoSem.ClaimMapViews
import Derived.JoinedTies
import Derived.KernelRfl
namespace Go.Proofs.Ytkjhllholojgmaa
/- THE CELL 'sum', in the pinned program and in every row, IS THE sha256 OF THE DUMP (.gsa) THAT YtkjhllholojgmaaProg.lean LOADS. Nothing in Lean hashes anything: it is a label: what it is worth is what the hold of that sum in a sandbox is worth. -/
noncomputable def Try.pinned : Pinned := { name := "ytkjhllholojgmaa", sum := "dbd919451ee93f4755cfd092eca402e7718bdb90583052bce59771b0ece74bbe", checked := Try.checked }
namespace Rows
def none {H : Type} : Left H := { results := [], args := [] }

/-- 'laws.FnStoreClosed': WHATEVER THE INPUT: true; the input reads as it did. -/
def fnStoreClosedSpec : ChangeSpec := { name := "fnStoreClosed", fn := fun _ => fun
  | [d1, d2] => { results := [.lit (.bool true)], args := [d1, d2] }
  | _ => none }
def fnStoreClosedRow : OpenClaim := { program := "ytkjhllholojgmaa", sum := "dbd919451ee93f4755cfd092eca402e7718bdb90583052bce59771b0ece74bbe", func := "loop.example/confluence/laws.FnStoreClosed", spec := "fnStoreClosed", unfollowed := true, recurses := true, apart := false }
def FnStoreClosedSaid : Prop := fnStoreClosedRow.holds Try.pinned (OpenSpec.ofChange fnStoreClosedSpec)

/-- ITS FALSE NEIGHBOUR: 'it returns false'. Refute it at one input. -/
def fnStoreClosedWrong : ChangeSpec := { name := "fnStoreClosed", fn := fun _ => fun
  | [d1, d2] => { results := [.lit (.bool false)], args := [d1, d2] }
  | _ => none }
def FnStoreClosedWrongFalsely : Prop := fnStoreClosedRow.holds Try.pinned (OpenSpec.ofChange fnStoreClosedWrong)

/-- 'laws.FnExactVerOk': WHATEVER THE INPUT: true; the input reads as it did. -/
def fnExactVerOkSpec : ChangeSpec := { name := "fnExactVerOk", fn := fun _ => fun
  | [d] => { results := [.lit (.bool true)], args := [d] }
  | _ => none }
def fnExactVerOkRow : OpenClaim := { program := "ytkjhllholojgmaa", sum := "dbd919451ee93f4755cfd092eca402e7718bdb90583052bce59771b0ece74bbe", func := "loop.example/confluence/laws.FnExactVerOk", spec := "fnExactVerOk", unfollowed := true, recurses := true, apart := false }
def FnExactVerOkSaid : Prop := fnExactVerOkRow.holds Try.pinned (OpenSpec.ofChange fnExactVerOkSpec)

/-- ITS FALSE NEIGHBOUR: 'it returns false'. Refute it at one input. -/
def fnExactVerOkWrong : ChangeSpec := { name := "fnExactVerOk", fn := fun _ => fun
  | [d] => { results := [.lit (.bool false)], args := [d] }
  | _ => none }
def FnExactVerOkWrongFalsely : Prop := fnExactVerOkRow.holds Try.pinned (OpenSpec.ofChange fnExactVerOkWrong)

/-- 'laws.FnExactStoreOk': WHATEVER THE INPUT: true; the input reads as it did. -/
def fnExactStoreOkSpec : ChangeSpec := { name := "fnExactStoreOk", fn := fun _ => fun
  | [d] => { results := [.lit (.bool true)], args := [d] }
  | _ => none }
def fnExactStoreOkRow : OpenClaim := { program := "ytkjhllholojgmaa", sum := "dbd919451ee93f4755cfd092eca402e7718bdb90583052bce59771b0ece74bbe", func := "loop.example/confluence/laws.FnExactStoreOk", spec := "fnExactStoreOk", unfollowed := true, recurses := true, apart := false }
def FnExactStoreOkSaid : Prop := fnExactStoreOkRow.holds Try.pinned (OpenSpec.ofChange fnExactStoreOkSpec)

/-- ITS FALSE NEIGHBOUR: 'it returns false'. Refute it at one input. -/
def fnExactStoreOkWrong : ChangeSpec := { name := "fnExactStoreOk", fn := fun _ => fun
  | [d] => { results := [.lit (.bool false)], args := [d] }
  | _ => none }
def FnExactStoreOkWrongFalsely : Prop := fnExactStoreOkRow.holds Try.pinned (OpenSpec.ofChange fnExactStoreOkWrong)

/-- 'laws.FnExactStoreNew': WHATEVER THE INPUT: true; the input reads as it did. -/
def fnExactStoreNewSpec : ChangeSpec := { name := "fnExactStoreNew", fn := fun _ => fun
  | [] => { results := [.lit (.bool true)], args := [] }
  | _ => none }
def fnExactStoreNewRow : OpenClaim := { program := "ytkjhllholojgmaa", sum := "dbd919451ee93f4755cfd092eca402e7718bdb90583052bce59771b0ece74bbe", func := "loop.example/confluence/laws.FnExactStoreNew", spec := "fnExactStoreNew", apart := false }
def FnExactStoreNewSaid : Prop := fnExactStoreNewRow.holds Try.pinned (OpenSpec.ofChange fnExactStoreNewSpec)

/-- ITS FALSE NEIGHBOUR: 'it returns false'. Refute it at one input. -/
def fnExactStoreNewWrong : ChangeSpec := { name := "fnExactStoreNew", fn := fun _ => fun
  | [] => { results := [.lit (.bool false)], args := [] }
  | _ => none }
def FnExactStoreNewWrongFalsely : Prop := fnExactStoreNewRow.holds Try.pinned (OpenSpec.ofChange fnExactStoreNewWrong)

/-- 'laws.FnExactStoreAdd': WHATEVER THE INPUT: true; the input reads as it did. -/
def fnExactStoreAddSpec : ChangeSpec := { name := "fnExactStoreAdd", fn := fun _ => fun
  | [d1, d2] => { results := [.lit (.bool true)], args := [d1, d2] }
  | _ => none }
def fnExactStoreAddRow : OpenClaim := { program := "ytkjhllholojgmaa", sum := "dbd919451ee93f4755cfd092eca402e7718bdb90583052bce59771b0ece74bbe", func := "loop.example/confluence/laws.FnExactStoreAdd", spec := "fnExactStoreAdd", unfollowed := true, recurses := true, apart := false }
def FnExactStoreAddSaid : Prop := fnExactStoreAddRow.holds Try.pinned (OpenSpec.ofChange fnExactStoreAddSpec)

/-- ITS FALSE NEIGHBOUR: 'it returns false'. Refute it at one input. -/
def fnExactStoreAddWrong : ChangeSpec := { name := "fnExactStoreAdd", fn := fun _ => fun
  | [d1, d2] => { results := [.lit (.bool false)], args := [d1, d2] }
  | _ => none }
def FnExactStoreAddWrongFalsely : Prop := fnExactStoreAddRow.holds Try.pinned (OpenSpec.ofChange fnExactStoreAddWrong)

/-- 'laws.FnExactStoreTags': WHATEVER THE INPUT: true; the input reads as it did. -/
def fnExactStoreTagsSpec : ChangeSpec := { name := "fnExactStoreTags", fn := fun _ => fun
  | [d] => { results := [.lit (.bool true)], args := [d] }
  | _ => none }
def fnExactStoreTagsRow : OpenClaim := { program := "ytkjhllholojgmaa", sum := "dbd919451ee93f4755cfd092eca402e7718bdb90583052bce59771b0ece74bbe", func := "loop.example/confluence/laws.FnExactStoreTags", spec := "fnExactStoreTags", unfollowed := true, recurses := true, apart := false }
def FnExactStoreTagsSaid : Prop := fnExactStoreTagsRow.holds Try.pinned (OpenSpec.ofChange fnExactStoreTagsSpec)

/-- ITS FALSE NEIGHBOUR: 'it returns false'. Refute it at one input. -/
def fnExactStoreTagsWrong : ChangeSpec := { name := "fnExactStoreTags", fn := fun _ => fun
  | [d] => { results := [.lit (.bool false)], args := [d] }
  | _ => none }
def FnExactStoreTagsWrongFalsely : Prop := fnExactStoreTagsRow.holds Try.pinned (OpenSpec.ofChange fnExactStoreTagsWrong)

/-- 'laws.FnExactStoreJoin': WHATEVER THE INPUT: true; the input reads as it did. -/
def fnExactStoreJoinSpec : ChangeSpec := { name := "fnExactStoreJoin", fn := fun _ => fun
  | [d1, d2] => { results := [.lit (.bool true)], args := [d1, d2] }
  | _ => none }
def fnExactStoreJoinRow : OpenClaim := { program := "ytkjhllholojgmaa", sum := "dbd919451ee93f4755cfd092eca402e7718bdb90583052bce59771b0ece74bbe", func := "loop.example/confluence/laws.FnExactStoreJoin", spec := "fnExactStoreJoin", unfollowed := true, recurses := true, apart := false }
def FnExactStoreJoinSaid : Prop := fnExactStoreJoinRow.holds Try.pinned (OpenSpec.ofChange fnExactStoreJoinSpec)

/-- ITS FALSE NEIGHBOUR: 'it returns false'. Refute it at one input. -/
def fnExactStoreJoinWrong : ChangeSpec := { name := "fnExactStoreJoin", fn := fun _ => fun
  | [d1, d2] => { results := [.lit (.bool false)], args := [d1, d2] }
  | _ => none }
def FnExactStoreJoinWrongFalsely : Prop := fnExactStoreJoinRow.holds Try.pinned (OpenSpec.ofChange fnExactStoreJoinWrong)

/-- 'laws.FnExactStoreClosed': WHATEVER THE INPUT: true; the input reads as it did. -/
def fnExactStoreClosedSpec : ChangeSpec := { name := "fnExactStoreClosed", fn := fun _ => fun
  | [d] => { results := [.lit (.bool true)], args := [d] }
  | _ => none }
def fnExactStoreClosedRow : OpenClaim := { program := "ytkjhllholojgmaa", sum := "dbd919451ee93f4755cfd092eca402e7718bdb90583052bce59771b0ece74bbe", func := "loop.example/confluence/laws.FnExactStoreClosed", spec := "fnExactStoreClosed", unfollowed := true, recurses := true, apart := false }
def FnExactStoreClosedSaid : Prop := fnExactStoreClosedRow.holds Try.pinned (OpenSpec.ofChange fnExactStoreClosedSpec)

/-- ITS FALSE NEIGHBOUR: 'it returns false'. Refute it at one input. -/
def fnExactStoreClosedWrong : ChangeSpec := { name := "fnExactStoreClosed", fn := fun _ => fun
  | [d] => { results := [.lit (.bool false)], args := [d] }
  | _ => none }
def FnExactStoreClosedWrongFalsely : Prop := fnExactStoreClosedRow.holds Try.pinned (OpenSpec.ofChange fnExactStoreClosedWrong)

/- THE SECOND FORM. 'bulk': how many values and letters a reading holds, each counted each time it is reached (what is shared counts as often as it is met; a slice's spare places count too). A statement '..UptoSaid' is the law's where the arguments, and the package variables that the reading takes, are together of bulk at most 1048576: NARROWER than '..Said'. Prove '..Said' where nothing that the law and all that it calls make is longer than what came in: it says more and counts as full. Else prove '..UptoSaid'. A law counts once. -/
mutual
def uptoBulk {H : Type} : DataW H → Nat
  | .lit (.string bytes) => bytes.length + 1
  | .lit _ => 1
  | .nil => 1
  | .ptr d => uptoBulk d + 1
  | .slice elems spare => uptoBulkAll elems + uptoBulkAll spare + 1
  | .agg parts => uptoBulkAll parts + 1
  | .iface _ d => uptoBulk d + 1
  | .map entries => uptoBulkEntries entries + 1
  | .held _ => 1
def uptoBulkAll {H : Type} : List (DataW H) → Nat
  | [] => 0
  | d :: r => uptoBulk d + uptoBulkAll r
def uptoBulkEntries {H : Type} : List (Lit × DataW H) → Nat
  | [] => 0
  | x :: r => uptoBulkEntry x + uptoBulkEntries r
def uptoBulkEntry {H : Type} : Lit × DataW H → Nat
  | (.string bytes, d) => bytes.length + uptoBulk d + 1
  | (_, d) => uptoBulk d + 1
 end
def uptoSmall : (H : Type) → List (DataW H) → Bool := fun _ ds => decide (uptoBulkAll ds ≤ 1048576)
def OpenSpec.upto (s : _root_.Go.ChangeSpec) : _root_.Go.OpenSpec := { _root_.Go.OpenSpec.ofChange s with cond := some uptoSmall }

/-- 'laws.FnStoreClosed', WHERE WHAT IT READS IS OF BULK AT MOST 1048576: true; the input reads as it did. -/
def fnStoreClosedUptoRow : OpenClaim := { program := "ytkjhllholojgmaa", sum := "dbd919451ee93f4755cfd092eca402e7718bdb90583052bce59771b0ece74bbe", func := "loop.example/confluence/laws.FnStoreClosed", spec := "fnStoreClosed", unfollowed := true, recurses := true, apart := false, narrowed := true }
def FnStoreClosedUptoSaid : Prop := fnStoreClosedUptoRow.holds Try.pinned (OpenSpec.upto fnStoreClosedSpec)

/-- 'laws.FnExactVerOk', WHERE WHAT IT READS IS OF BULK AT MOST 1048576: true; the input reads as it did. -/
def fnExactVerOkUptoRow : OpenClaim := { program := "ytkjhllholojgmaa", sum := "dbd919451ee93f4755cfd092eca402e7718bdb90583052bce59771b0ece74bbe", func := "loop.example/confluence/laws.FnExactVerOk", spec := "fnExactVerOk", unfollowed := true, recurses := true, apart := false, narrowed := true }
def FnExactVerOkUptoSaid : Prop := fnExactVerOkUptoRow.holds Try.pinned (OpenSpec.upto fnExactVerOkSpec)

/-- 'laws.FnExactStoreOk', WHERE WHAT IT READS IS OF BULK AT MOST 1048576: true; the input reads as it did. -/
def fnExactStoreOkUptoRow : OpenClaim := { program := "ytkjhllholojgmaa", sum := "dbd919451ee93f4755cfd092eca402e7718bdb90583052bce59771b0ece74bbe", func := "loop.example/confluence/laws.FnExactStoreOk", spec := "fnExactStoreOk", unfollowed := true, recurses := true, apart := false, narrowed := true }
def FnExactStoreOkUptoSaid : Prop := fnExactStoreOkUptoRow.holds Try.pinned (OpenSpec.upto fnExactStoreOkSpec)

/-- 'laws.FnExactStoreNew', WHERE WHAT IT READS IS OF BULK AT MOST 1048576: true; the input reads as it did. -/
def fnExactStoreNewUptoRow : OpenClaim := { program := "ytkjhllholojgmaa", sum := "dbd919451ee93f4755cfd092eca402e7718bdb90583052bce59771b0ece74bbe", func := "loop.example/confluence/laws.FnExactStoreNew", spec := "fnExactStoreNew", apart := false, narrowed := true }
def FnExactStoreNewUptoSaid : Prop := fnExactStoreNewUptoRow.holds Try.pinned (OpenSpec.upto fnExactStoreNewSpec)

/-- 'laws.FnExactStoreAdd', WHERE WHAT IT READS IS OF BULK AT MOST 1048576: true; the input reads as it did. -/
def fnExactStoreAddUptoRow : OpenClaim := { program := "ytkjhllholojgmaa", sum := "dbd919451ee93f4755cfd092eca402e7718bdb90583052bce59771b0ece74bbe", func := "loop.example/confluence/laws.FnExactStoreAdd", spec := "fnExactStoreAdd", unfollowed := true, recurses := true, apart := false, narrowed := true }
def FnExactStoreAddUptoSaid : Prop := fnExactStoreAddUptoRow.holds Try.pinned (OpenSpec.upto fnExactStoreAddSpec)

/-- 'laws.FnExactStoreTags', WHERE WHAT IT READS IS OF BULK AT MOST 1048576: true; the input reads as it did. -/
def fnExactStoreTagsUptoRow : OpenClaim := { program := "ytkjhllholojgmaa", sum := "dbd919451ee93f4755cfd092eca402e7718bdb90583052bce59771b0ece74bbe", func := "loop.example/confluence/laws.FnExactStoreTags", spec := "fnExactStoreTags", unfollowed := true, recurses := true, apart := false, narrowed := true }
def FnExactStoreTagsUptoSaid : Prop := fnExactStoreTagsUptoRow.holds Try.pinned (OpenSpec.upto fnExactStoreTagsSpec)

/-- 'laws.FnExactStoreJoin', WHERE WHAT IT READS IS OF BULK AT MOST 1048576: true; the input reads as it did. -/
def fnExactStoreJoinUptoRow : OpenClaim := { program := "ytkjhllholojgmaa", sum := "dbd919451ee93f4755cfd092eca402e7718bdb90583052bce59771b0ece74bbe", func := "loop.example/confluence/laws.FnExactStoreJoin", spec := "fnExactStoreJoin", unfollowed := true, recurses := true, apart := false, narrowed := true }
def FnExactStoreJoinUptoSaid : Prop := fnExactStoreJoinUptoRow.holds Try.pinned (OpenSpec.upto fnExactStoreJoinSpec)

/-- 'laws.FnExactStoreClosed', WHERE WHAT IT READS IS OF BULK AT MOST 1048576: true; the input reads as it did. -/
def fnExactStoreClosedUptoRow : OpenClaim := { program := "ytkjhllholojgmaa", sum := "dbd919451ee93f4755cfd092eca402e7718bdb90583052bce59771b0ece74bbe", func := "loop.example/confluence/laws.FnExactStoreClosed", spec := "fnExactStoreClosed", unfollowed := true, recurses := true, apart := false, narrowed := true }
def FnExactStoreClosedUptoSaid : Prop := fnExactStoreClosedUptoRow.holds Try.pinned (OpenSpec.upto fnExactStoreClosedSpec)

end Rows
end Go.Proofs.Ytkjhllholojgmaa
