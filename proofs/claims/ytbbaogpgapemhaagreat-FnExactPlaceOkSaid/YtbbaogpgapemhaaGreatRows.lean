/-
  No cell of these rows narrows 'for every input' (looked for: loops, veiled, ifaces, maps, wideKeys, modest, calm, conditions, laid).
  DERIVED. THE GIVEN ROWS OF THIS SEAT. 7 by the template 'for every input the law returns true; each argument reads behind the call as it read before'; 0 by the template 'total and deterministic' (their statements: YtbbaogpgapemhaaGreatTotals.lean).
  GIVEN WITH THE SEED: the statements are not yours to turn. If you find one false, say at which input.
  Laid BY PROGRAM, IN A SANDBOX (cutbox-rows.mjs): the forced cells as the released guide's own fill.sh prints them over the translation cd4f3a1dde4da6b0… (all of the seat's roots in one cut). By AI agents, Wed Nov 11 2026. No macro, syntax, notation, axiom, sorry.
-/
import Derived.Test.YtbbaogpgapemhaaGreatChecked
import GoSem.Claim
import GoSem.ClaimJoined
import GoSem.ClaimMapViews
import Derived.JoinedTies
import Derived.KernelRfl
namespace Go.Proofs.YtbbaogpgapemhaaGreat
/- THE CELL 'sum', in the pinned program and in every row, IS THE sha256 OF THE DUMP (.gsa) THAT YtbbaogpgapemhaaGreatProg.lean LOADS. Nothing in Lean hashes anything: it is a label: what it is worth is what the hold of that sum in a sandbox is worth. -/
noncomputable def Tryz.pinned : Pinned := { name := "ytbbaogpgapemhaagreat", sum := "cd4f3a1dde4da6b0c2977be591ec870a761e7cbd5639eaeb31444a73e336fc01", checked := Tryz.checked }
namespace Rows
def none {H : Type} : Left H := { results := [], args := [] }

/-- 'laws.FnExactPlaceOk': WHATEVER THE INPUT: true; the input reads as it did. -/
def fnExactPlaceOkSpec : ChangeSpec := { name := "fnExactPlaceOk", fn := fun _ => fun
  | [d] => { results := [.lit (.bool true)], args := [d] }
  | _ => none }
def fnExactPlaceOkRow : OpenClaim := { program := "ytbbaogpgapemhaagreat", sum := "cd4f3a1dde4da6b0c2977be591ec870a761e7cbd5639eaeb31444a73e336fc01", func := "loop.example/confluence/laws.FnExactPlaceOk", spec := "fnExactPlaceOk", unfollowed := true, recurses := true, apart := false }
def FnExactPlaceOkSaid : Prop := fnExactPlaceOkRow.holds Tryz.pinned (OpenSpec.ofChange fnExactPlaceOkSpec)

/-- ITS FALSE NEIGHBOUR: 'it returns false'. Refute it at one input. -/
def fnExactPlaceOkWrong : ChangeSpec := { name := "fnExactPlaceOk", fn := fun _ => fun
  | [d] => { results := [.lit (.bool false)], args := [d] }
  | _ => none }
def FnExactPlaceOkWrongFalsely : Prop := fnExactPlaceOkRow.holds Tryz.pinned (OpenSpec.ofChange fnExactPlaceOkWrong)

/-- 'laws.FnExactPlaceWrite': WHATEVER THE INPUT: true; the input reads as it did. -/
def fnExactPlaceWriteSpec : ChangeSpec := { name := "fnExactPlaceWrite", fn := fun _ => fun
  | [d1, d2, d3, d4, d5] => { results := [.lit (.bool true)], args := [d1, d2, d3, d4, d5] }
  | _ => none }
def fnExactPlaceWriteRow : OpenClaim := { program := "ytbbaogpgapemhaagreat", sum := "cd4f3a1dde4da6b0c2977be591ec870a761e7cbd5639eaeb31444a73e336fc01", func := "loop.example/confluence/laws.FnExactPlaceWrite", spec := "fnExactPlaceWrite", unfollowed := true, recurses := true, apart := false }
def FnExactPlaceWriteSaid : Prop := fnExactPlaceWriteRow.holds Tryz.pinned (OpenSpec.ofChange fnExactPlaceWriteSpec)

/-- ITS FALSE NEIGHBOUR: 'it returns false'. Refute it at one input. -/
def fnExactPlaceWriteWrong : ChangeSpec := { name := "fnExactPlaceWrite", fn := fun _ => fun
  | [d1, d2, d3, d4, d5] => { results := [.lit (.bool false)], args := [d1, d2, d3, d4, d5] }
  | _ => none }
def FnExactPlaceWriteWrongFalsely : Prop := fnExactPlaceWriteRow.holds Tryz.pinned (OpenSpec.ofChange fnExactPlaceWriteWrong)

/-- 'laws.FnExactPlacePass': WHATEVER THE INPUT: true; the input reads as it did. -/
def fnExactPlacePassSpec : ChangeSpec := { name := "fnExactPlacePass", fn := fun _ => fun
  | [d1, d2] => { results := [.lit (.bool true)], args := [d1, d2] }
  | _ => none }
def fnExactPlacePassRow : OpenClaim := { program := "ytbbaogpgapemhaagreat", sum := "cd4f3a1dde4da6b0c2977be591ec870a761e7cbd5639eaeb31444a73e336fc01", func := "loop.example/confluence/laws.FnExactPlacePass", spec := "fnExactPlacePass", unfollowed := true, recurses := true, apart := false }
def FnExactPlacePassSaid : Prop := fnExactPlacePassRow.holds Tryz.pinned (OpenSpec.ofChange fnExactPlacePassSpec)

/-- ITS FALSE NEIGHBOUR: 'it returns false'. Refute it at one input. -/
def fnExactPlacePassWrong : ChangeSpec := { name := "fnExactPlacePass", fn := fun _ => fun
  | [d1, d2] => { results := [.lit (.bool false)], args := [d1, d2] }
  | _ => none }
def FnExactPlacePassWrongFalsely : Prop := fnExactPlacePassRow.holds Tryz.pinned (OpenSpec.ofChange fnExactPlacePassWrong)

/-- 'laws.FnExactPlaceFall': WHATEVER THE INPUT: true; the input reads as it did. -/
def fnExactPlaceFallSpec : ChangeSpec := { name := "fnExactPlaceFall", fn := fun _ => fun
  | [d1, d2] => { results := [.lit (.bool true)], args := [d1, d2] }
  | _ => none }
def fnExactPlaceFallRow : OpenClaim := { program := "ytbbaogpgapemhaagreat", sum := "cd4f3a1dde4da6b0c2977be591ec870a761e7cbd5639eaeb31444a73e336fc01", func := "loop.example/confluence/laws.FnExactPlaceFall", spec := "fnExactPlaceFall", unfollowed := true, recurses := true, apart := false }
def FnExactPlaceFallSaid : Prop := fnExactPlaceFallRow.holds Tryz.pinned (OpenSpec.ofChange fnExactPlaceFallSpec)

/-- ITS FALSE NEIGHBOUR: 'it returns false'. Refute it at one input. -/
def fnExactPlaceFallWrong : ChangeSpec := { name := "fnExactPlaceFall", fn := fun _ => fun
  | [d1, d2] => { results := [.lit (.bool false)], args := [d1, d2] }
  | _ => none }
def FnExactPlaceFallWrongFalsely : Prop := fnExactPlaceFallRow.holds Tryz.pinned (OpenSpec.ofChange fnExactPlaceFallWrong)

/-- 'laws.FnExactPlaceJoin': WHATEVER THE INPUT: true; the input reads as it did. -/
def fnExactPlaceJoinSpec : ChangeSpec := { name := "fnExactPlaceJoin", fn := fun _ => fun
  | [d] => { results := [.lit (.bool true)], args := [d] }
  | _ => none }
def fnExactPlaceJoinRow : OpenClaim := { program := "ytbbaogpgapemhaagreat", sum := "cd4f3a1dde4da6b0c2977be591ec870a761e7cbd5639eaeb31444a73e336fc01", func := "loop.example/confluence/laws.FnExactPlaceJoin", spec := "fnExactPlaceJoin", unfollowed := true, recurses := true, apart := false }
def FnExactPlaceJoinSaid : Prop := fnExactPlaceJoinRow.holds Tryz.pinned (OpenSpec.ofChange fnExactPlaceJoinSpec)

/-- ITS FALSE NEIGHBOUR: 'it returns false'. Refute it at one input. -/
def fnExactPlaceJoinWrong : ChangeSpec := { name := "fnExactPlaceJoin", fn := fun _ => fun
  | [d] => { results := [.lit (.bool false)], args := [d] }
  | _ => none }
def FnExactPlaceJoinWrongFalsely : Prop := fnExactPlaceJoinRow.holds Tryz.pinned (OpenSpec.ofChange fnExactPlaceJoinWrong)

/-- 'laws.FnExactPlaceHear': WHATEVER THE INPUT: true; the input reads as it did. -/
def fnExactPlaceHearSpec : ChangeSpec := { name := "fnExactPlaceHear", fn := fun _ => fun
  | [d1, d2, d3, d4] => { results := [.lit (.bool true)], args := [d1, d2, d3, d4] }
  | _ => none }
def fnExactPlaceHearRow : OpenClaim := { program := "ytbbaogpgapemhaagreat", sum := "cd4f3a1dde4da6b0c2977be591ec870a761e7cbd5639eaeb31444a73e336fc01", func := "loop.example/confluence/laws.FnExactPlaceHear", spec := "fnExactPlaceHear", unfollowed := true, recurses := true, apart := false }
def FnExactPlaceHearSaid : Prop := fnExactPlaceHearRow.holds Tryz.pinned (OpenSpec.ofChange fnExactPlaceHearSpec)

/-- ITS FALSE NEIGHBOUR: 'it returns false'. Refute it at one input. -/
def fnExactPlaceHearWrong : ChangeSpec := { name := "fnExactPlaceHear", fn := fun _ => fun
  | [d1, d2, d3, d4] => { results := [.lit (.bool false)], args := [d1, d2, d3, d4] }
  | _ => none }
def FnExactPlaceHearWrongFalsely : Prop := fnExactPlaceHearRow.holds Tryz.pinned (OpenSpec.ofChange fnExactPlaceHearWrong)

/-- 'laws.FnExactPlaceTake': WHATEVER THE INPUT: true; the input reads as it did. -/
def fnExactPlaceTakeSpec : ChangeSpec := { name := "fnExactPlaceTake", fn := fun _ => fun
  | [d1, d2] => { results := [.lit (.bool true)], args := [d1, d2] }
  | _ => none }
def fnExactPlaceTakeRow : OpenClaim := { program := "ytbbaogpgapemhaagreat", sum := "cd4f3a1dde4da6b0c2977be591ec870a761e7cbd5639eaeb31444a73e336fc01", func := "loop.example/confluence/laws.FnExactPlaceTake", spec := "fnExactPlaceTake", unfollowed := true, recurses := true, apart := false }
def FnExactPlaceTakeSaid : Prop := fnExactPlaceTakeRow.holds Tryz.pinned (OpenSpec.ofChange fnExactPlaceTakeSpec)

/-- ITS FALSE NEIGHBOUR: 'it returns false'. Refute it at one input. -/
def fnExactPlaceTakeWrong : ChangeSpec := { name := "fnExactPlaceTake", fn := fun _ => fun
  | [d1, d2] => { results := [.lit (.bool false)], args := [d1, d2] }
  | _ => none }
def FnExactPlaceTakeWrongFalsely : Prop := fnExactPlaceTakeRow.holds Tryz.pinned (OpenSpec.ofChange fnExactPlaceTakeWrong)

/- THE SECOND FORM. 'bulk': how many values and letters a reading holds, each counted each time it is reached (what is shared counts as often as it is met; a slice's spare places count too). A statement '..UptoSaid' is the law's where the arguments, and the package variables that the reading takes, are together of bulk at most 1048576: NARROWER than '..Said'. Prove '..Said' where nothing that the law and all that it calls make is longer than what came in: it says more and counts as full. Else prove '..UptoSaid'. A law counts once. -/
mutual
def uptoBulk {H : Type} : DataW H → Nat
  | .lit (.string bytes) => bytes.length + 1
  | .lit _ => 1
  | .nil => 1
  | .ptr d => uptoBulk d + 1
  | .slice elems spare => uptoBulkAll elems + uptoBulkAll spare + 1
  | .agg parts => uptoBulkAll parts + 1
  | .iface _ d => uptoBulk d + 1
  | .map entries => uptoBulkEntries entries + 1
  | .held _ => 1
def uptoBulkAll {H : Type} : List (DataW H) → Nat
  | [] => 0
  | d :: r => uptoBulk d + uptoBulkAll r
def uptoBulkEntries {H : Type} : List (Lit × DataW H) → Nat
  | [] => 0
  | x :: r => uptoBulkEntry x + uptoBulkEntries r
def uptoBulkEntry {H : Type} : Lit × DataW H → Nat
  | (.string bytes, d) => bytes.length + uptoBulk d + 1
  | (_, d) => uptoBulk d + 1
 end
def uptoSmall : (H : Type) → List (DataW H) → Bool := fun _ ds => decide (uptoBulkAll ds ≤ 1048576)
def OpenSpec.upto (s : _root_.Go.ChangeSpec) : _root_.Go.OpenSpec := { _root_.Go.OpenSpec.ofChange s with cond := some uptoSmall }

/-- 'laws.FnExactPlaceOk', WHERE WHAT IT READS IS OF BULK AT MOST 1048576: true; the input reads as it did. -/
def fnExactPlaceOkUptoRow : OpenClaim := { program := "ytbbaogpgapemhaagreat", sum := "cd4f3a1dde4da6b0c2977be591ec870a761e7cbd5639eaeb31444a73e336fc01", func := "loop.example/confluence/laws.FnExactPlaceOk", spec := "fnExactPlaceOk", unfollowed := true, recurses := true, apart := false, narrowed := true }
def FnExactPlaceOkUptoSaid : Prop := fnExactPlaceOkUptoRow.holds Tryz.pinned (OpenSpec.upto fnExactPlaceOkSpec)

/-- 'laws.FnExactPlaceWrite', WHERE WHAT IT READS IS OF BULK AT MOST 1048576: true; the input reads as it did. -/
def fnExactPlaceWriteUptoRow : OpenClaim := { program := "ytbbaogpgapemhaagreat", sum := "cd4f3a1dde4da6b0c2977be591ec870a761e7cbd5639eaeb31444a73e336fc01", func := "loop.example/confluence/laws.FnExactPlaceWrite", spec := "fnExactPlaceWrite", unfollowed := true, recurses := true, apart := false, narrowed := true }
def FnExactPlaceWriteUptoSaid : Prop := fnExactPlaceWriteUptoRow.holds Tryz.pinned (OpenSpec.upto fnExactPlaceWriteSpec)

/-- 'laws.FnExactPlacePass', WHERE WHAT IT READS IS OF BULK AT MOST 1048576: true; the input reads as it did. -/
def fnExactPlacePassUptoRow : OpenClaim := { program := "ytbbaogpgapemhaagreat", sum := "cd4f3a1dde4da6b0c2977be591ec870a761e7cbd5639eaeb31444a73e336fc01", func := "loop.example/confluence/laws.FnExactPlacePass", spec := "fnExactPlacePass", unfollowed := true, recurses := true, apart := false, narrowed := true }
def FnExactPlacePassUptoSaid : Prop := fnExactPlacePassUptoRow.holds Tryz.pinned (OpenSpec.upto fnExactPlacePassSpec)

/-- 'laws.FnExactPlaceFall', WHERE WHAT IT READS IS OF BULK AT MOST 1048576: true; the input reads as it did. -/
def fnExactPlaceFallUptoRow : OpenClaim := { program := "ytbbaogpgapemhaagreat", sum := "cd4f3a1dde4da6b0c2977be591ec870a761e7cbd5639eaeb31444a73e336fc01", func := "loop.example/confluence/laws.FnExactPlaceFall", spec := "fnExactPlaceFall", unfollowed := true, recurses := true, apart := false, narrowed := true }
def FnExactPlaceFallUptoSaid : Prop := fnExactPlaceFallUptoRow.holds Tryz.pinned (OpenSpec.upto fnExactPlaceFallSpec)

/-- 'laws.FnExactPlaceJoin', WHERE WHAT IT READS IS OF BULK AT MOST 1048576: true; the input reads as it did. -/
def fnExactPlaceJoinUptoRow : OpenClaim := { program := "ytbbaogpgapemhaagreat", sum := "cd4f3a1dde4da6b0c2977be591ec870a761e7cbd5639eaeb31444a73e336fc01", func := "loop.example/confluence/laws.FnExactPlaceJoin", spec := "fnExactPlaceJoin", unfollowed := true, recurses := true, apart := false, narrowed := true }
def FnExactPlaceJoinUptoSaid : Prop := fnExactPlaceJoinUptoRow.holds Tryz.pinned (OpenSpec.upto fnExactPlaceJoinSpec)

/-- 'laws.FnExactPlaceHear', WHERE WHAT IT READS IS OF BULK AT MOST 1048576: true; the input reads as it did. -/
def fnExactPlaceHearUptoRow : OpenClaim := { program := "ytbbaogpgapemhaagreat", sum := "cd4f3a1dde4da6b0c2977be591ec870a761e7cbd5639eaeb31444a73e336fc01", func := "loop.example/confluence/laws.FnExactPlaceHear", spec := "fnExactPlaceHear", unfollowed := true, recurses := true, apart := false, narrowed := true }
def FnExactPlaceHearUptoSaid : Prop := fnExactPlaceHearUptoRow.holds Tryz.pinned (OpenSpec.upto fnExactPlaceHearSpec)

/-- 'laws.FnExactPlaceTake', WHERE WHAT IT READS IS OF BULK AT MOST 1048576: true; the input reads as it did. -/
def fnExactPlaceTakeUptoRow : OpenClaim := { program := "ytbbaogpgapemhaagreat", sum := "cd4f3a1dde4da6b0c2977be591ec870a761e7cbd5639eaeb31444a73e336fc01", func := "loop.example/confluence/laws.FnExactPlaceTake", spec := "fnExactPlaceTake", unfollowed := true, recurses := true, apart := false, narrowed := true }
def FnExactPlaceTakeUptoSaid : Prop := fnExactPlaceTakeUptoRow.holds Tryz.pinned (OpenSpec.upto fnExactPlaceTakeSpec)

end Rows
end Go.Proofs.YtbbaogpgapemhaaGreat
