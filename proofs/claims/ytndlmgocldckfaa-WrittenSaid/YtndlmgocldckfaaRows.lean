/-
  No cell of these rows narrows 'for every input' (looked for: loops, veiled, ifaces, maps, wideKeys, modest, calm, conditions, laid).
  DERIVED. THE GIVEN ROWS OF THIS SEAT. 6 by the template 'for every input the law returns true; each argument reads behind the call as it read before'; 0 by the template 'total and deterministic' (their statements: YtndlmgocldckfaaTotals.lean).
  GIVEN WITH THE SEED: the statements are not yours to turn. If you find one false, say at which input.
  Laid BY PROGRAM, IN A SANDBOX (cutbox-rows.mjs): the forced cells as the released guide's own fill.sh prints them over the translation 5a1e63fd0cb45f58… (all of the seat's roots in one cut). By AI agents, Wed Nov 11 2026. No macro, syntax, notation, axiom, sorry.
-/
import Derived.Test.YtndlmgocldckfaaChecked
import GoSem.Claim
import GoSem.ClaimJoined
import GoSem.ClaimMapViews
import Derived.JoinedTies
import Derived.KernelRfl
namespace Go.Proofs.Ytndlmgocldckfaa
/- THE CELL 'sum', in the pinned program and in every row, IS THE sha256 OF THE DUMP (.gsa) THAT YtndlmgocldckfaaProg.lean LOADS. Nothing in Lean hashes anything: it is a label: what it is worth is what the hold of that sum in a sandbox is worth. -/
noncomputable def Try.pinned : Pinned := { name := "ytndlmgocldckfaa", sum := "5a1e63fd0cb45f58e5647482b5a7ce8d033fc93db563910fde8816d43da88dd3", checked := Try.checked }
namespace Rows
def none {H : Type} : Left H := { results := [], args := [] }

/-- 'tempokeep.Ordered': WHATEVER THE INPUT: true; the input reads as it did. -/
def orderedSpec : ChangeSpec := { name := "ordered", fn := fun _ => fun
  | [d1, d2, d3] => { results := [.lit (.bool true)], args := [d1, d2, d3] }
  | _ => none }
def orderedRow : OpenClaim := { program := "ytndlmgocldckfaa", sum := "5a1e63fd0cb45f58e5647482b5a7ce8d033fc93db563910fde8816d43da88dd3", func := "tempo/tempokeep.Ordered", spec := "ordered", unfollowed := true, recurses := true, apart := false }
def OrderedSaid : Prop := orderedRow.holds Try.pinned (OpenSpec.ofChange orderedSpec)

/-- ITS FALSE NEIGHBOUR: 'it returns false'. Refute it at one input. -/
def orderedWrong : ChangeSpec := { name := "ordered", fn := fun _ => fun
  | [d1, d2, d3] => { results := [.lit (.bool false)], args := [d1, d2, d3] }
  | _ => none }
def OrderedWrongFalsely : Prop := orderedRow.holds Try.pinned (OpenSpec.ofChange orderedWrong)

/-- 'tempokeep.Resumed': WHATEVER THE INPUT: true; the input reads as it did. -/
def resumedSpec : ChangeSpec := { name := "resumed", fn := fun _ => fun
  | [d1, d2, d3] => { results := [.lit (.bool true)], args := [d1, d2, d3] }
  | _ => none }
def resumedRow : OpenClaim := { program := "ytndlmgocldckfaa", sum := "5a1e63fd0cb45f58e5647482b5a7ce8d033fc93db563910fde8816d43da88dd3", func := "tempo/tempokeep.Resumed", spec := "resumed", unfollowed := true, recurses := true, apart := false }
def ResumedSaid : Prop := resumedRow.holds Try.pinned (OpenSpec.ofChange resumedSpec)

/-- ITS FALSE NEIGHBOUR: 'it returns false'. Refute it at one input. -/
def resumedWrong : ChangeSpec := { name := "resumed", fn := fun _ => fun
  | [d1, d2, d3] => { results := [.lit (.bool false)], args := [d1, d2, d3] }
  | _ => none }
def ResumedWrongFalsely : Prop := resumedRow.holds Try.pinned (OpenSpec.ofChange resumedWrong)

/-- 'tempokeep.Refused': WHATEVER THE INPUT: true; the input reads as it did. -/
def refusedSpec : ChangeSpec := { name := "refused", fn := fun _ => fun
  | [d1, d2] => { results := [.lit (.bool true)], args := [d1, d2] }
  | _ => none }
def refusedRow : OpenClaim := { program := "ytndlmgocldckfaa", sum := "5a1e63fd0cb45f58e5647482b5a7ce8d033fc93db563910fde8816d43da88dd3", func := "tempo/tempokeep.Refused", spec := "refused", unfollowed := true, recurses := true, apart := false }
def RefusedSaid : Prop := refusedRow.holds Try.pinned (OpenSpec.ofChange refusedSpec)

/-- ITS FALSE NEIGHBOUR: 'it returns false'. Refute it at one input. -/
def refusedWrong : ChangeSpec := { name := "refused", fn := fun _ => fun
  | [d1, d2] => { results := [.lit (.bool false)], args := [d1, d2] }
  | _ => none }
def RefusedWrongFalsely : Prop := refusedRow.holds Try.pinned (OpenSpec.ofChange refusedWrong)

/-- 'tempokeep.Written': WHATEVER THE INPUT: true; the input reads as it did. -/
def writtenSpec : ChangeSpec := { name := "written", fn := fun _ => fun
  | [d1, d2, d3] => { results := [.lit (.bool true)], args := [d1, d2, d3] }
  | _ => none }
def writtenRow : OpenClaim := { program := "ytndlmgocldckfaa", sum := "5a1e63fd0cb45f58e5647482b5a7ce8d033fc93db563910fde8816d43da88dd3", func := "tempo/tempokeep.Written", spec := "written", unfollowed := true, recurses := true, apart := false }
def WrittenSaid : Prop := writtenRow.holds Try.pinned (OpenSpec.ofChange writtenSpec)

/-- ITS FALSE NEIGHBOUR: 'it returns false'. Refute it at one input. -/
def writtenWrong : ChangeSpec := { name := "written", fn := fun _ => fun
  | [d1, d2, d3] => { results := [.lit (.bool false)], args := [d1, d2, d3] }
  | _ => none }
def WrittenWrongFalsely : Prop := writtenRow.holds Try.pinned (OpenSpec.ofChange writtenWrong)

/-- 'tempokeep.Sealed': WHATEVER THE INPUT: true; the input reads as it did. -/
def sealedSpec : ChangeSpec := { name := "sealed", fn := fun _ => fun
  | [d1, d2, d3, d4] => { results := [.lit (.bool true)], args := [d1, d2, d3, d4] }
  | _ => none }
def sealedRow : OpenClaim := { program := "ytndlmgocldckfaa", sum := "5a1e63fd0cb45f58e5647482b5a7ce8d033fc93db563910fde8816d43da88dd3", func := "tempo/tempokeep.Sealed", spec := "sealed", unfollowed := true, recurses := true, apart := false }
def SealedSaid : Prop := sealedRow.holds Try.pinned (OpenSpec.ofChange sealedSpec)

/-- ITS FALSE NEIGHBOUR: 'it returns false'. Refute it at one input. -/
def sealedWrong : ChangeSpec := { name := "sealed", fn := fun _ => fun
  | [d1, d2, d3, d4] => { results := [.lit (.bool false)], args := [d1, d2, d3, d4] }
  | _ => none }
def SealedWrongFalsely : Prop := sealedRow.holds Try.pinned (OpenSpec.ofChange sealedWrong)

/-- 'tempokeep.Quiet': WHATEVER THE INPUT: true; the input reads as it did. -/
def quietSpec : ChangeSpec := { name := "quiet", fn := fun _ => fun
  | [d1, d2, d3, d4] => { results := [.lit (.bool true)], args := [d1, d2, d3, d4] }
  | _ => none }
def quietRow : OpenClaim := { program := "ytndlmgocldckfaa", sum := "5a1e63fd0cb45f58e5647482b5a7ce8d033fc93db563910fde8816d43da88dd3", func := "tempo/tempokeep.Quiet", spec := "quiet", unfollowed := true, recurses := true, apart := false }
def QuietSaid : Prop := quietRow.holds Try.pinned (OpenSpec.ofChange quietSpec)

/-- ITS FALSE NEIGHBOUR: 'it returns false'. Refute it at one input. -/
def quietWrong : ChangeSpec := { name := "quiet", fn := fun _ => fun
  | [d1, d2, d3, d4] => { results := [.lit (.bool false)], args := [d1, d2, d3, d4] }
  | _ => none }
def QuietWrongFalsely : Prop := quietRow.holds Try.pinned (OpenSpec.ofChange quietWrong)

/- THE SECOND FORM. 'bulk': how many values and letters a reading holds, each counted each time it is reached (what is shared counts as often as it is met; a slice's spare places count too). A statement '..UptoSaid' is the law's where the arguments, and the package variables that the reading takes, are together of bulk at most 1048576: NARROWER than '..Said'. Prove '..Said' where nothing that the law and all that it calls make is longer than what came in: it says more and counts as full. Else prove '..UptoSaid'. A law counts once. -/
mutual
def uptoBulk {H : Type} : DataW H → Nat
  | .lit (.string bytes) => bytes.length + 1
  | .lit _ => 1
  | .nil => 1
  | .ptr d => uptoBulk d + 1
  | .slice elems spare => uptoBulkAll elems + uptoBulkAll spare + 1
  | .agg parts => uptoBulkAll parts + 1
  | .iface _ d => uptoBulk d + 1
  | .map entries => uptoBulkEntries entries + 1
  | .held _ => 1
def uptoBulkAll {H : Type} : List (DataW H) → Nat
  | [] => 0
  | d :: r => uptoBulk d + uptoBulkAll r
def uptoBulkEntries {H : Type} : List (Lit × DataW H) → Nat
  | [] => 0
  | x :: r => uptoBulkEntry x + uptoBulkEntries r
def uptoBulkEntry {H : Type} : Lit × DataW H → Nat
  | (.string bytes, d) => bytes.length + uptoBulk d + 1
  | (_, d) => uptoBulk d + 1
 end
def uptoSmall : (H : Type) → List (DataW H) → Bool := fun _ ds => decide (uptoBulkAll ds ≤ 1048576)
def OpenSpec.upto (s : _root_.Go.ChangeSpec) : _root_.Go.OpenSpec := { _root_.Go.OpenSpec.ofChange s with cond := some uptoSmall }

/-- 'tempokeep.Ordered', WHERE WHAT IT READS IS OF BULK AT MOST 1048576: true; the input reads as it did. -/
def orderedUptoRow : OpenClaim := { program := "ytndlmgocldckfaa", sum := "5a1e63fd0cb45f58e5647482b5a7ce8d033fc93db563910fde8816d43da88dd3", func := "tempo/tempokeep.Ordered", spec := "ordered", unfollowed := true, recurses := true, apart := false, narrowed := true }
def OrderedUptoSaid : Prop := orderedUptoRow.holds Try.pinned (OpenSpec.upto orderedSpec)

/-- 'tempokeep.Resumed', WHERE WHAT IT READS IS OF BULK AT MOST 1048576: true; the input reads as it did. -/
def resumedUptoRow : OpenClaim := { program := "ytndlmgocldckfaa", sum := "5a1e63fd0cb45f58e5647482b5a7ce8d033fc93db563910fde8816d43da88dd3", func := "tempo/tempokeep.Resumed", spec := "resumed", unfollowed := true, recurses := true, apart := false, narrowed := true }
def ResumedUptoSaid : Prop := resumedUptoRow.holds Try.pinned (OpenSpec.upto resumedSpec)

/-- 'tempokeep.Refused', WHERE WHAT IT READS IS OF BULK AT MOST 1048576: true; the input reads as it did. -/
def refusedUptoRow : OpenClaim := { program := "ytndlmgocldckfaa", sum := "5a1e63fd0cb45f58e5647482b5a7ce8d033fc93db563910fde8816d43da88dd3", func := "tempo/tempokeep.Refused", spec := "refused", unfollowed := true, recurses := true, apart := false, narrowed := true }
def RefusedUptoSaid : Prop := refusedUptoRow.holds Try.pinned (OpenSpec.upto refusedSpec)

/-- 'tempokeep.Written', WHERE WHAT IT READS IS OF BULK AT MOST 1048576: true; the input reads as it did. -/
def writtenUptoRow : OpenClaim := { program := "ytndlmgocldckfaa", sum := "5a1e63fd0cb45f58e5647482b5a7ce8d033fc93db563910fde8816d43da88dd3", func := "tempo/tempokeep.Written", spec := "written", unfollowed := true, recurses := true, apart := false, narrowed := true }
def WrittenUptoSaid : Prop := writtenUptoRow.holds Try.pinned (OpenSpec.upto writtenSpec)

/-- 'tempokeep.Sealed', WHERE WHAT IT READS IS OF BULK AT MOST 1048576: true; the input reads as it did. -/
def sealedUptoRow : OpenClaim := { program := "ytndlmgocldckfaa", sum := "5a1e63fd0cb45f58e5647482b5a7ce8d033fc93db563910fde8816d43da88dd3", func := "tempo/tempokeep.Sealed", spec := "sealed", unfollowed := true, recurses := true, apart := false, narrowed := true }
def SealedUptoSaid : Prop := sealedUptoRow.holds Try.pinned (OpenSpec.upto sealedSpec)

/-- 'tempokeep.Quiet', WHERE WHAT IT READS IS OF BULK AT MOST 1048576: true; the input reads as it did. -/
def quietUptoRow : OpenClaim := { program := "ytndlmgocldckfaa", sum := "5a1e63fd0cb45f58e5647482b5a7ce8d033fc93db563910fde8816d43da88dd3", func := "tempo/tempokeep.Quiet", spec := "quiet", unfollowed := true, recurses := true, apart := false, narrowed := true }
def QuietUptoSaid : Prop := quietUptoRow.holds Try.pinned (OpenSpec.upto quietSpec)

end Rows
end Go.Proofs.Ytndlmgocldckfaa
