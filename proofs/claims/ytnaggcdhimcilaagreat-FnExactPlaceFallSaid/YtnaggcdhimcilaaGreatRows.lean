/-
  No cell of these rows narrows 'for every input' (looked for: loops, veiled, ifaces, maps, wideKeys, modest, calm, conditions, laid).
  DERIVED. THE GIVEN ROWS OF THIS SEAT. 3 by the template 'for every input the law returns true; each argument reads behind the call as it read before'; 0 by the template 'total and deterministic' (their statements: YtnaggcdhimcilaaGreatTotals.lean).
  GIVEN WITH THE SEED: the statements are not yours to turn. If you find one false, say at which input.
  Laid BY PROGRAM, IN A SANDBOX (cutbox-rows.mjs): the forced cells as the released guide's own fill.sh prints them over the translation 68cb8091466559cd… (all of the seat's roots in one cut). By AI agents, Wed Nov 11 2026. No macro, syntax, notation, axiom, sorry.
-/
import Derived.Test.YtnaggcdhimcilaaGreatChecked
import GoSem.Claim
import GoSem.ClaimJoined
import GoSem.ClaimMapViews
import Derived.JoinedTies
import Derived.KernelRfl
namespace Go.Proofs.YtnaggcdhimcilaaGreat
/- THE CELL 'sum', in the pinned program and in every row, IS THE sha256 OF THE DUMP (.gsa) THAT YtnaggcdhimcilaaGreatProg.lean LOADS. Nothing in Lean hashes anything: it is a label: what it is worth is what the hold of that sum in a sandbox is worth. -/
noncomputable def Tryz.pinned : Pinned := { name := "ytnaggcdhimcilaagreat", sum := "68cb8091466559cd14075af83cf32750d077456d5867cfa56f4efad3d8ddc753", checked := Tryz.checked }
namespace Rows
def none {H : Type} : Left H := { results := [], args := [] }

/-- 'laws.FnExactPlacePass': WHATEVER THE INPUT: true; the input reads as it did. -/
def fnExactPlacePassSpec : ChangeSpec := { name := "fnExactPlacePass", fn := fun _ => fun
  | [d1, d2] => { results := [.lit (.bool true)], args := [d1, d2] }
  | _ => none }
def fnExactPlacePassRow : OpenClaim := { program := "ytnaggcdhimcilaagreat", sum := "68cb8091466559cd14075af83cf32750d077456d5867cfa56f4efad3d8ddc753", func := "loop.example/confluence/laws.FnExactPlacePass", spec := "fnExactPlacePass", unfollowed := true, recurses := true, apart := false }
def FnExactPlacePassSaid : Prop := fnExactPlacePassRow.holds Tryz.pinned (OpenSpec.ofChange fnExactPlacePassSpec)

/-- ITS FALSE NEIGHBOUR: 'it returns false'. Refute it at one input. -/
def fnExactPlacePassWrong : ChangeSpec := { name := "fnExactPlacePass", fn := fun _ => fun
  | [d1, d2] => { results := [.lit (.bool false)], args := [d1, d2] }
  | _ => none }
def FnExactPlacePassWrongFalsely : Prop := fnExactPlacePassRow.holds Tryz.pinned (OpenSpec.ofChange fnExactPlacePassWrong)

/-- 'laws.FnExactPlaceFall': WHATEVER THE INPUT: true; the input reads as it did. -/
def fnExactPlaceFallSpec : ChangeSpec := { name := "fnExactPlaceFall", fn := fun _ => fun
  | [d1, d2] => { results := [.lit (.bool true)], args := [d1, d2] }
  | _ => none }
def fnExactPlaceFallRow : OpenClaim := { program := "ytnaggcdhimcilaagreat", sum := "68cb8091466559cd14075af83cf32750d077456d5867cfa56f4efad3d8ddc753", func := "loop.example/confluence/laws.FnExactPlaceFall", spec := "fnExactPlaceFall", unfollowed := true, recurses := true, apart := false }
def FnExactPlaceFallSaid : Prop := fnExactPlaceFallRow.holds Tryz.pinned (OpenSpec.ofChange fnExactPlaceFallSpec)

/-- ITS FALSE NEIGHBOUR: 'it returns false'. Refute it at one input. -/
def fnExactPlaceFallWrong : ChangeSpec := { name := "fnExactPlaceFall", fn := fun _ => fun
  | [d1, d2] => { results := [.lit (.bool false)], args := [d1, d2] }
  | _ => none }
def FnExactPlaceFallWrongFalsely : Prop := fnExactPlaceFallRow.holds Tryz.pinned (OpenSpec.ofChange fnExactPlaceFallWrong)

/-- 'laws.FnExactPlaceJoin': WHATEVER THE INPUT: true; the input reads as it did. -/
def fnExactPlaceJoinSpec : ChangeSpec := { name := "fnExactPlaceJoin", fn := fun _ => fun
  | [d] => { results := [.lit (.bool true)], args := [d] }
  | _ => none }
def fnExactPlaceJoinRow : OpenClaim := { program := "ytnaggcdhimcilaagreat", sum := "68cb8091466559cd14075af83cf32750d077456d5867cfa56f4efad3d8ddc753", func := "loop.example/confluence/laws.FnExactPlaceJoin", spec := "fnExactPlaceJoin", unfollowed := true, recurses := true, apart := false }
def FnExactPlaceJoinSaid : Prop := fnExactPlaceJoinRow.holds Tryz.pinned (OpenSpec.ofChange fnExactPlaceJoinSpec)

/-- ITS FALSE NEIGHBOUR: 'it returns false'. Refute it at one input. -/
def fnExactPlaceJoinWrong : ChangeSpec := { name := "fnExactPlaceJoin", fn := fun _ => fun
  | [d] => { results := [.lit (.bool false)], args := [d] }
  | _ => none }
def FnExactPlaceJoinWrongFalsely : Prop := fnExactPlaceJoinRow.holds Tryz.pinned (OpenSpec.ofChange fnExactPlaceJoinWrong)

/- THE SECOND FORM. 'bulk': how many values and letters a reading holds, each counted each time it is reached (what is shared counts as often as it is met; a slice's spare places count too). A statement '..UptoSaid' is the law's where the arguments, and the package variables that the reading takes, are together of bulk at most 1048576: NARROWER than '..Said'. Prove '..Said' where nothing that the law and all that it calls make is longer than what came in: it says more and counts as full. Else prove '..UptoSaid'. A law counts once. -/
mutual
def uptoBulk {H : Type} : DataW H → Nat
  | .lit (.string bytes) => bytes.length + 1
  | .lit _ => 1
  | .nil => 1
  | .ptr d => uptoBulk d + 1
  | .slice elems spare => uptoBulkAll elems + uptoBulkAll spare + 1
  | .agg parts => uptoBulkAll parts + 1
  | .iface _ d => uptoBulk d + 1
  | .map entries => uptoBulkEntries entries + 1
  | .held _ => 1
def uptoBulkAll {H : Type} : List (DataW H) → Nat
  | [] => 0
  | d :: r => uptoBulk d + uptoBulkAll r
def uptoBulkEntries {H : Type} : List (Lit × DataW H) → Nat
  | [] => 0
  | x :: r => uptoBulkEntry x + uptoBulkEntries r
def uptoBulkEntry {H : Type} : Lit × DataW H → Nat
  | (.string bytes, d) => bytes.length + uptoBulk d + 1
  | (_, d) => uptoBulk d + 1
 end
def uptoSmall : (H : Type) → List (DataW H) → Bool := fun _ ds => decide (uptoBulkAll ds ≤ 1048576)
def OpenSpec.upto (s : _root_.Go.ChangeSpec) : _root_.Go.OpenSpec := { _root_.Go.OpenSpec.ofChange s with cond := some uptoSmall }

/-- 'laws.FnExactPlacePass', WHERE WHAT IT READS IS OF BULK AT MOST 1048576: true; the input reads as it did. -/
def fnExactPlacePassUptoRow : OpenClaim := { program := "ytnaggcdhimcilaagreat", sum := "68cb8091466559cd14075af83cf32750d077456d5867cfa56f4efad3d8ddc753", func := "loop.example/confluence/laws.FnExactPlacePass", spec := "fnExactPlacePass", unfollowed := true, recurses := true, apart := false, narrowed := true }
def FnExactPlacePassUptoSaid : Prop := fnExactPlacePassUptoRow.holds Tryz.pinned (OpenSpec.upto fnExactPlacePassSpec)

/-- 'laws.FnExactPlaceFall', WHERE WHAT IT READS IS OF BULK AT MOST 1048576: true; the input reads as it did. -/
def fnExactPlaceFallUptoRow : OpenClaim := { program := "ytnaggcdhimcilaagreat", sum := "68cb8091466559cd14075af83cf32750d077456d5867cfa56f4efad3d8ddc753", func := "loop.example/confluence/laws.FnExactPlaceFall", spec := "fnExactPlaceFall", unfollowed := true, recurses := true, apart := false, narrowed := true }
def FnExactPlaceFallUptoSaid : Prop := fnExactPlaceFallUptoRow.holds Tryz.pinned (OpenSpec.upto fnExactPlaceFallSpec)

/-- 'laws.FnExactPlaceJoin', WHERE WHAT IT READS IS OF BULK AT MOST 1048576: true; the input reads as it did. -/
def fnExactPlaceJoinUptoRow : OpenClaim := { program := "ytnaggcdhimcilaagreat", sum := "68cb8091466559cd14075af83cf32750d077456d5867cfa56f4efad3d8ddc753", func := "loop.example/confluence/laws.FnExactPlaceJoin", spec := "fnExactPlaceJoin", unfollowed := true, recurses := true, apart := false, narrowed := true }
def FnExactPlaceJoinUptoSaid : Prop := fnExactPlaceJoinUptoRow.holds Tryz.pinned (OpenSpec.upto fnExactPlaceJoinSpec)

end Rows
end Go.Proofs.YtnaggcdhimcilaaGreat
