/-
  No cell of these rows narrows 'for every input' (looked for: loops, veiled, ifaces, maps, wideKeys, modest, calm, conditions, laid).
  DERIVED. THE GIVEN ROWS OF THIS SEAT. 4 by the template 'for every input the law returns true; each argument reads behind the call as it read before'; 0 by the template 'total and deterministic' (their statements: YtjnloillcgeodaaGreatTotals.lean).
  GIVEN WITH THE SEED: the statements are not yours to turn. If you find one false, say at which input.
  Laid BY PROGRAM, IN A SANDBOX (cutbox-rows.mjs): the forced cells as the released guide's own fill.sh prints them over the translation 3eb42cfde4ccc6d8… (all of the seat's roots in one cut). By AI agents, Wed Nov 11 2026. No macro, syntax, notation, axiom, sorry.
-/
import Derived.Test.YtjnloillcgeodaaGreatChecked
import GoSem.Claim
import GoSem.ClaimJoined
import GoSem.ClaimMapViews
import Derived.JoinedTies
import Derived.KernelRfl
namespace Go.Proofs.YtjnloillcgeodaaGreat
/- THE CELL 'sum', in the pinned program and in every row, IS THE sha256 OF THE DUMP (.gsa) THAT YtjnloillcgeodaaGreatProg.lean LOADS. Nothing in Lean hashes anything: it is a label: what it is worth is what the hold of that sum in a sandbox is worth. -/
noncomputable def Tryz.pinned : Pinned := { name := "ytjnloillcgeodaagreat", sum := "3eb42cfde4ccc6d837e820400992fa4542ca9f419fb9e587b79e06630eb637dc", checked := Tryz.checked }
namespace Rows
def none {H : Type} : Left H := { results := [], args := [] }

/-- 'laws.FnChainFall': WHATEVER THE INPUT: true; the input reads as it did. -/
def fnChainFallSpec : ChangeSpec := { name := "fnChainFall", fn := fun _ => fun
  | [d] => { results := [.lit (.bool true)], args := [d] }
  | _ => none }
def fnChainFallRow : OpenClaim := { program := "ytjnloillcgeodaagreat", sum := "3eb42cfde4ccc6d837e820400992fa4542ca9f419fb9e587b79e06630eb637dc", func := "loop.example/confluence/laws.FnChainFall", spec := "fnChainFall", unfollowed := true, recurses := true, apart := false }
def FnChainFallSaid : Prop := fnChainFallRow.holds Tryz.pinned (OpenSpec.ofChange fnChainFallSpec)

/-- ITS FALSE NEIGHBOUR: 'it returns false'. Refute it at one input. -/
def fnChainFallWrong : ChangeSpec := { name := "fnChainFall", fn := fun _ => fun
  | [d] => { results := [.lit (.bool false)], args := [d] }
  | _ => none }
def FnChainFallWrongFalsely : Prop := fnChainFallRow.holds Tryz.pinned (OpenSpec.ofChange fnChainFallWrong)

/-- 'laws.FnChainJoin': WHATEVER THE INPUT: true; the input reads as it did. -/
def fnChainJoinSpec : ChangeSpec := { name := "fnChainJoin", fn := fun _ => fun
  | [d] => { results := [.lit (.bool true)], args := [d] }
  | _ => none }
def fnChainJoinRow : OpenClaim := { program := "ytjnloillcgeodaagreat", sum := "3eb42cfde4ccc6d837e820400992fa4542ca9f419fb9e587b79e06630eb637dc", func := "loop.example/confluence/laws.FnChainJoin", spec := "fnChainJoin", unfollowed := true, recurses := true, apart := false }
def FnChainJoinSaid : Prop := fnChainJoinRow.holds Tryz.pinned (OpenSpec.ofChange fnChainJoinSpec)

/-- ITS FALSE NEIGHBOUR: 'it returns false'. Refute it at one input. -/
def fnChainJoinWrong : ChangeSpec := { name := "fnChainJoin", fn := fun _ => fun
  | [d] => { results := [.lit (.bool false)], args := [d] }
  | _ => none }
def FnChainJoinWrongFalsely : Prop := fnChainJoinRow.holds Tryz.pinned (OpenSpec.ofChange fnChainJoinWrong)

/-- 'laws.FnChainShows': WHATEVER THE INPUT: true; the input reads as it did. -/
def fnChainShowsSpec : ChangeSpec := { name := "fnChainShows", fn := fun _ => fun
  | [d] => { results := [.lit (.bool true)], args := [d] }
  | _ => none }
def fnChainShowsRow : OpenClaim := { program := "ytjnloillcgeodaagreat", sum := "3eb42cfde4ccc6d837e820400992fa4542ca9f419fb9e587b79e06630eb637dc", func := "loop.example/confluence/laws.FnChainShows", spec := "fnChainShows", unfollowed := true, recurses := true, apart := false }
def FnChainShowsSaid : Prop := fnChainShowsRow.holds Tryz.pinned (OpenSpec.ofChange fnChainShowsSpec)

/-- ITS FALSE NEIGHBOUR: 'it returns false'. Refute it at one input. -/
def fnChainShowsWrong : ChangeSpec := { name := "fnChainShows", fn := fun _ => fun
  | [d] => { results := [.lit (.bool false)], args := [d] }
  | _ => none }
def FnChainShowsWrongFalsely : Prop := fnChainShowsRow.holds Tryz.pinned (OpenSpec.ofChange fnChainShowsWrong)

/-- 'laws.FnExactChainFall': WHATEVER THE INPUT: true; the input reads as it did. -/
def fnExactChainFallSpec : ChangeSpec := { name := "fnExactChainFall", fn := fun _ => fun
  | [d1, d2] => { results := [.lit (.bool true)], args := [d1, d2] }
  | _ => none }
def fnExactChainFallRow : OpenClaim := { program := "ytjnloillcgeodaagreat", sum := "3eb42cfde4ccc6d837e820400992fa4542ca9f419fb9e587b79e06630eb637dc", func := "loop.example/confluence/laws.FnExactChainFall", spec := "fnExactChainFall", unfollowed := true, recurses := true, apart := false }
def FnExactChainFallSaid : Prop := fnExactChainFallRow.holds Tryz.pinned (OpenSpec.ofChange fnExactChainFallSpec)

/-- ITS FALSE NEIGHBOUR: 'it returns false'. Refute it at one input. -/
def fnExactChainFallWrong : ChangeSpec := { name := "fnExactChainFall", fn := fun _ => fun
  | [d1, d2] => { results := [.lit (.bool false)], args := [d1, d2] }
  | _ => none }
def FnExactChainFallWrongFalsely : Prop := fnExactChainFallRow.holds Tryz.pinned (OpenSpec.ofChange fnExactChainFallWrong)

/- THE SECOND FORM. 'bulk': how many values and letters a reading holds, each counted each time it is reached (what is shared counts as often as it is met; a slice's spare places count too). A statement '..UptoSaid' is the law's where the arguments, and the package variables that the reading takes, are together of bulk at most 1048576: NARROWER than '..Said'. Prove '..Said' where nothing that the law and all that it calls make is longer than what came in: it says more and counts as full. Else prove '..UptoSaid'. A law counts once. -/
mutual
def uptoBulk {H : Type} : DataW H → Nat
  | .lit (.string bytes) => bytes.length + 1
  | .lit _ => 1
  | .nil => 1
  | .ptr d => uptoBulk d + 1
  | .slice elems spare => uptoBulkAll elems + uptoBulkAll spare + 1
  | .agg parts => uptoBulkAll parts + 1
  | .iface _ d => uptoBulk d + 1
  | .map entries => uptoBulkEntries entries + 1
  | .held _ => 1
def uptoBulkAll {H : Type} : List (DataW H) → Nat
  | [] => 0
  | d :: r => uptoBulk d + uptoBulkAll r
def uptoBulkEntries {H : Type} : List (Lit × DataW H) → Nat
  | [] => 0
  | x :: r => uptoBulkEntry x + uptoBulkEntries r
def uptoBulkEntry {H : Type} : Lit × DataW H → Nat
  | (.string bytes, d) => bytes.length + uptoBulk d + 1
  | (_, d) => uptoBulk d + 1
 end
def uptoSmall : (H : Type) → List (DataW H) → Bool := fun _ ds => decide (uptoBulkAll ds ≤ 1048576)
def OpenSpec.upto (s : _root_.Go.ChangeSpec) : _root_.Go.OpenSpec := { _root_.Go.OpenSpec.ofChange s with cond := some uptoSmall }

/-- 'laws.FnChainFall', WHERE WHAT IT READS IS OF BULK AT MOST 1048576: true; the input reads as it did. -/
def fnChainFallUptoRow : OpenClaim := { program := "ytjnloillcgeodaagreat", sum := "3eb42cfde4ccc6d837e820400992fa4542ca9f419fb9e587b79e06630eb637dc", func := "loop.example/confluence/laws.FnChainFall", spec := "fnChainFall", unfollowed := true, recurses := true, apart := false, narrowed := true }
def FnChainFallUptoSaid : Prop := fnChainFallUptoRow.holds Tryz.pinned (OpenSpec.upto fnChainFallSpec)

/-- 'laws.FnChainJoin', WHERE WHAT IT READS IS OF BULK AT MOST 1048576: true; the input reads as it did. -/
def fnChainJoinUptoRow : OpenClaim := { program := "ytjnloillcgeodaagreat", sum := "3eb42cfde4ccc6d837e820400992fa4542ca9f419fb9e587b79e06630eb637dc", func := "loop.example/confluence/laws.FnChainJoin", spec := "fnChainJoin", unfollowed := true, recurses := true, apart := false, narrowed := true }
def FnChainJoinUptoSaid : Prop := fnChainJoinUptoRow.holds Tryz.pinned (OpenSpec.upto fnChainJoinSpec)

/-- 'laws.FnChainShows', WHERE WHAT IT READS IS OF BULK AT MOST 1048576: true; the input reads as it did. -/
def fnChainShowsUptoRow : OpenClaim := { program := "ytjnloillcgeodaagreat", sum := "3eb42cfde4ccc6d837e820400992fa4542ca9f419fb9e587b79e06630eb637dc", func := "loop.example/confluence/laws.FnChainShows", spec := "fnChainShows", unfollowed := true, recurses := true, apart := false, narrowed := true }
def FnChainShowsUptoSaid : Prop := fnChainShowsUptoRow.holds Tryz.pinned (OpenSpec.upto fnChainShowsSpec)

/-- 'laws.FnExactChainFall', WHERE WHAT IT READS IS OF BULK AT MOST 1048576: true; the input reads as it did. -/
def fnExactChainFallUptoRow : OpenClaim := { program := "ytjnloillcgeodaagreat", sum := "3eb42cfde4ccc6d837e820400992fa4542ca9f419fb9e587b79e06630eb637dc", func := "loop.example/confluence/laws.FnExactChainFall", spec := "fnExactChainFall", unfollowed := true, recurses := true, apart := false, narrowed := true }
def FnExactChainFallUptoSaid : Prop := fnExactChainFallUptoRow.holds Tryz.pinned (OpenSpec.upto fnExactChainFallSpec)

end Rows
end Go.Proofs.YtjnloillcgeodaaGreat
