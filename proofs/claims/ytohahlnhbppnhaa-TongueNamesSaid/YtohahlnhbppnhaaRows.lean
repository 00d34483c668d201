/-
  No cell of these rows narrows 'for every input' (looked for: loops, veiled, ifaces, maps, wideKeys, modest, calm, conditions, laid).
  DERIVED. THE GIVEN ROWS OF THIS SEAT. 13 by the template 'for every input the law returns true; each argument reads behind the call as it read before'; 0 by the template 'total and deterministic' (their statements: YtohahlnhbppnhaaTotals.lean).
  GIVEN WITH THE SEED: the statements are not yours to turn. If you find one false, say at which input.
  Laid BY PROGRAM, IN A SANDBOX (cutbox-rows.mjs): the forced cells as the released guide's own fill.sh prints them over the translation eb76c7a833775003… (all of the seat's roots in one cut). By AI agents, Wed Nov 11 2026. No macro, syntax, notation, axiom, sorry.
-/
import Derived.Test.YtohahlnhbppnhaaChecked
import GoSem.Claim
import GoSem.ClaimJoined
import GoSem.ClaimMapViews
import Derived.JoinedTies
import Derived.KernelRfl
namespace Go.Proofs.Ytohahlnhbppnhaa
/- THE CELL 'sum', in the pinned program and in every row, IS THE sha256 OF THE DUMP (.gsa) THAT YtohahlnhbppnhaaProg.lean LOADS. Nothing in Lean hashes anything: it is a label: what it is worth is what the hold of that sum in a sandbox is worth. -/
noncomputable def Try.pinned : Pinned := { name := "ytohahlnhbppnhaa", sum := "eb76c7a83377500363684f46ed7f17079f6049b55d7a1b1fd3d67aadd3b53c83", checked := Try.checked }
namespace Rows
def none {H : Type} : Left H := { results := [], args := [] }

/-- 'palantypelaw08.TongueMatches': WHATEVER THE INPUT: true; the input reads as it did. -/
def tongueMatchesSpec : ChangeSpec := { name := "tongueMatches", fn := fun _ => fun
  | [d1, d2] => { results := [.lit (.bool true)], args := [d1, d2] }
  | _ => none }
def tongueMatchesRow : OpenClaim := { program := "ytohahlnhbppnhaa", sum := "eb76c7a83377500363684f46ed7f17079f6049b55d7a1b1fd3d67aadd3b53c83", func := "palantype/palantypelaw08.TongueMatches", spec := "tongueMatches", unfollowed := true, recurses := true, plainKeys := false, apart := false }
def TongueMatchesSaid : Prop := tongueMatchesRow.holds Try.pinned (OpenSpec.ofChange tongueMatchesSpec)

/-- ITS FALSE NEIGHBOUR: 'it returns false'. Refute it at one input. -/
def tongueMatchesWrong : ChangeSpec := { name := "tongueMatches", fn := fun _ => fun
  | [d1, d2] => { results := [.lit (.bool false)], args := [d1, d2] }
  | _ => none }
def TongueMatchesWrongFalsely : Prop := tongueMatchesRow.holds Try.pinned (OpenSpec.ofChange tongueMatchesWrong)

/-- 'palantypelaw08.TongueCosts': WHATEVER THE INPUT: true; the input reads as it did. -/
def tongueCostsSpec : ChangeSpec := { name := "tongueCosts", fn := fun _ => fun
  | [d1, d2, d3] => { results := [.lit (.bool true)], args := [d1, d2, d3] }
  | _ => none }
def tongueCostsRow : OpenClaim := { program := "ytohahlnhbppnhaa", sum := "eb76c7a83377500363684f46ed7f17079f6049b55d7a1b1fd3d67aadd3b53c83", func := "palantype/palantypelaw08.TongueCosts", spec := "tongueCosts", unfollowed := true, recurses := true, plainKeys := false, apart := false }
def TongueCostsSaid : Prop := tongueCostsRow.holds Try.pinned (OpenSpec.ofChange tongueCostsSpec)

/-- ITS FALSE NEIGHBOUR: 'it returns false'. Refute it at one input. -/
def tongueCostsWrong : ChangeSpec := { name := "tongueCosts", fn := fun _ => fun
  | [d1, d2, d3] => { results := [.lit (.bool false)], args := [d1, d2, d3] }
  | _ => none }
def TongueCostsWrongFalsely : Prop := tongueCostsRow.holds Try.pinned (OpenSpec.ofChange tongueCostsWrong)

/-- 'palantypelaw08.TongueProofs': WHATEVER THE INPUT: true; the input reads as it did. -/
def tongueProofsSpec : ChangeSpec := { name := "tongueProofs", fn := fun _ => fun
  | [d1, d2, d3, d4, d5, d6, d7, d8] => { results := [.lit (.bool true)], args := [d1, d2, d3, d4, d5, d6, d7, d8] }
  | _ => none }
def tongueProofsRow : OpenClaim := { program := "ytohahlnhbppnhaa", sum := "eb76c7a83377500363684f46ed7f17079f6049b55d7a1b1fd3d67aadd3b53c83", func := "palantype/palantypelaw08.TongueProofs", spec := "tongueProofs", unfollowed := true, recurses := true, plainKeys := false, apart := false }
def TongueProofsSaid : Prop := tongueProofsRow.holds Try.pinned (OpenSpec.ofChange tongueProofsSpec)

/-- ITS FALSE NEIGHBOUR: 'it returns false'. Refute it at one input. -/
def tongueProofsWrong : ChangeSpec := { name := "tongueProofs", fn := fun _ => fun
  | [d1, d2, d3, d4, d5, d6, d7, d8] => { results := [.lit (.bool false)], args := [d1, d2, d3, d4, d5, d6, d7, d8] }
  | _ => none }
def TongueProofsWrongFalsely : Prop := tongueProofsRow.holds Try.pinned (OpenSpec.ofChange tongueProofsWrong)

/-- 'palantypelaw08.TongueCounts': WHATEVER THE INPUT: true; the input reads as it did. -/
def tongueCountsSpec : ChangeSpec := { name := "tongueCounts", fn := fun _ => fun
  | [d1, d2, d3, d4] => { results := [.lit (.bool true)], args := [d1, d2, d3, d4] }
  | _ => none }
def tongueCountsRow : OpenClaim := { program := "ytohahlnhbppnhaa", sum := "eb76c7a83377500363684f46ed7f17079f6049b55d7a1b1fd3d67aadd3b53c83", func := "palantype/palantypelaw08.TongueCounts", spec := "tongueCounts", unfollowed := true, recurses := true, plainKeys := false, apart := false }
def TongueCountsSaid : Prop := tongueCountsRow.holds Try.pinned (OpenSpec.ofChange tongueCountsSpec)

/-- ITS FALSE NEIGHBOUR: 'it returns false'. Refute it at one input. -/
def tongueCountsWrong : ChangeSpec := { name := "tongueCounts", fn := fun _ => fun
  | [d1, d2, d3, d4] => { results := [.lit (.bool false)], args := [d1, d2, d3, d4] }
  | _ => none }
def TongueCountsWrongFalsely : Prop := tongueCountsRow.holds Try.pinned (OpenSpec.ofChange tongueCountsWrong)

/-- 'palantypelaw08.TongueTimes': WHATEVER THE INPUT: true; the input reads as it did. -/
def tongueTimesSpec : ChangeSpec := { name := "tongueTimes", fn := fun _ => fun
  | [d1, d2] => { results := [.lit (.bool true)], args := [d1, d2] }
  | _ => none }
def tongueTimesRow : OpenClaim := { program := "ytohahlnhbppnhaa", sum := "eb76c7a83377500363684f46ed7f17079f6049b55d7a1b1fd3d67aadd3b53c83", func := "palantype/palantypelaw08.TongueTimes", spec := "tongueTimes", unfollowed := true, recurses := true, plainKeys := false, apart := false }
def TongueTimesSaid : Prop := tongueTimesRow.holds Try.pinned (OpenSpec.ofChange tongueTimesSpec)

/-- ITS FALSE NEIGHBOUR: 'it returns false'. Refute it at one input. -/
def tongueTimesWrong : ChangeSpec := { name := "tongueTimes", fn := fun _ => fun
  | [d1, d2] => { results := [.lit (.bool false)], args := [d1, d2] }
  | _ => none }
def TongueTimesWrongFalsely : Prop := tongueTimesRow.holds Try.pinned (OpenSpec.ofChange tongueTimesWrong)

/-- 'palantypelaw08.TongueNames': WHATEVER THE INPUT: true; the input reads as it did. -/
def tongueNamesSpec : ChangeSpec := { name := "tongueNames", fn := fun _ => fun
  | [] => { results := [.lit (.bool true)], args := [] }
  | _ => none }
def tongueNamesRow : OpenClaim := { program := "ytohahlnhbppnhaa", sum := "eb76c7a83377500363684f46ed7f17079f6049b55d7a1b1fd3d67aadd3b53c83", func := "palantype/palantypelaw08.TongueNames", spec := "tongueNames", unfollowed := true, recurses := true, plainKeys := false, apart := false }
def TongueNamesSaid : Prop := tongueNamesRow.holds Try.pinned (OpenSpec.ofChange tongueNamesSpec)

/-- ITS FALSE NEIGHBOUR: 'it returns false'. Refute it at one input. -/
def tongueNamesWrong : ChangeSpec := { name := "tongueNames", fn := fun _ => fun
  | [] => { results := [.lit (.bool false)], args := [] }
  | _ => none }
def TongueNamesWrongFalsely : Prop := tongueNamesRow.holds Try.pinned (OpenSpec.ofChange tongueNamesWrong)

/-- 'palantypelaw08.TongueBest': WHATEVER THE INPUT: true; the input reads as it did. -/
def tongueBestSpec : ChangeSpec := { name := "tongueBest", fn := fun _ => fun
  | [d1, d2, d3, d4, d5] => { results := [.lit (.bool true)], args := [d1, d2, d3, d4, d5] }
  | _ => none }
def tongueBestRow : OpenClaim := { program := "ytohahlnhbppnhaa", sum := "eb76c7a83377500363684f46ed7f17079f6049b55d7a1b1fd3d67aadd3b53c83", func := "palantype/palantypelaw08.TongueBest", spec := "tongueBest", unfollowed := true, recurses := true, plainKeys := false, apart := false }
def TongueBestSaid : Prop := tongueBestRow.holds Try.pinned (OpenSpec.ofChange tongueBestSpec)

/-- ITS FALSE NEIGHBOUR: 'it returns false'. Refute it at one input. -/
def tongueBestWrong : ChangeSpec := { name := "tongueBest", fn := fun _ => fun
  | [d1, d2, d3, d4, d5] => { results := [.lit (.bool false)], args := [d1, d2, d3, d4, d5] }
  | _ => none }
def TongueBestWrongFalsely : Prop := tongueBestRow.holds Try.pinned (OpenSpec.ofChange tongueBestWrong)

/-- 'palantypelaw08.TongueOnce': WHATEVER THE INPUT: true; the input reads as it did. -/
def tongueOnceSpec : ChangeSpec := { name := "tongueOnce", fn := fun _ => fun
  | [d1, d2, d3, d4] => { results := [.lit (.bool true)], args := [d1, d2, d3, d4] }
  | _ => none }
def tongueOnceRow : OpenClaim := { program := "ytohahlnhbppnhaa", sum := "eb76c7a83377500363684f46ed7f17079f6049b55d7a1b1fd3d67aadd3b53c83", func := "palantype/palantypelaw08.TongueOnce", spec := "tongueOnce", unfollowed := true, recurses := true, plainKeys := false, apart := false }
def TongueOnceSaid : Prop := tongueOnceRow.holds Try.pinned (OpenSpec.ofChange tongueOnceSpec)

/-- ITS FALSE NEIGHBOUR: 'it returns false'. Refute it at one input. -/
def tongueOnceWrong : ChangeSpec := { name := "tongueOnce", fn := fun _ => fun
  | [d1, d2, d3, d4] => { results := [.lit (.bool false)], args := [d1, d2, d3, d4] }
  | _ => none }
def TongueOnceWrongFalsely : Prop := tongueOnceRow.holds Try.pinned (OpenSpec.ofChange tongueOnceWrong)

/-- 'palantypelaw08.TongueTurned': WHATEVER THE INPUT: true; the input reads as it did. -/
def tongueTurnedSpec : ChangeSpec := { name := "tongueTurned", fn := fun _ => fun
  | [d1, d2] => { results := [.lit (.bool true)], args := [d1, d2] }
  | _ => none }
def tongueTurnedRow : OpenClaim := { program := "ytohahlnhbppnhaa", sum := "eb76c7a83377500363684f46ed7f17079f6049b55d7a1b1fd3d67aadd3b53c83", func := "palantype/palantypelaw08.TongueTurned", spec := "tongueTurned", unfollowed := true, recurses := true, plainKeys := false, apart := false }
def TongueTurnedSaid : Prop := tongueTurnedRow.holds Try.pinned (OpenSpec.ofChange tongueTurnedSpec)

/-- ITS FALSE NEIGHBOUR: 'it returns false'. Refute it at one input. -/
def tongueTurnedWrong : ChangeSpec := { name := "tongueTurned", fn := fun _ => fun
  | [d1, d2] => { results := [.lit (.bool false)], args := [d1, d2] }
  | _ => none }
def TongueTurnedWrongFalsely : Prop := tongueTurnedRow.holds Try.pinned (OpenSpec.ofChange tongueTurnedWrong)

/-- 'palantypelaw08.TongueSame': WHATEVER THE INPUT: true; the input reads as it did. -/
def tongueSameSpec : ChangeSpec := { name := "tongueSame", fn := fun _ => fun
  | [d] => { results := [.lit (.bool true)], args := [d] }
  | _ => none }
def tongueSameRow : OpenClaim := { program := "ytohahlnhbppnhaa", sum := "eb76c7a83377500363684f46ed7f17079f6049b55d7a1b1fd3d67aadd3b53c83", func := "palantype/palantypelaw08.TongueSame", spec := "tongueSame", unfollowed := true, recurses := true, plainKeys := false, apart := false }
def TongueSameSaid : Prop := tongueSameRow.holds Try.pinned (OpenSpec.ofChange tongueSameSpec)

/-- ITS FALSE NEIGHBOUR: 'it returns false'. Refute it at one input. -/
def tongueSameWrong : ChangeSpec := { name := "tongueSame", fn := fun _ => fun
  | [d] => { results := [.lit (.bool false)], args := [d] }
  | _ => none }
def TongueSameWrongFalsely : Prop := tongueSameRow.holds Try.pinned (OpenSpec.ofChange tongueSameWrong)

/-- 'palantypelaw08.TongueMore': WHATEVER THE INPUT: true; the input reads as it did. -/
def tongueMoreSpec : ChangeSpec := { name := "tongueMore", fn := fun _ => fun
  | [d1, d2, d3] => { results := [.lit (.bool true)], args := [d1, d2, d3] }
  | _ => none }
def tongueMoreRow : OpenClaim := { program := "ytohahlnhbppnhaa", sum := "eb76c7a83377500363684f46ed7f17079f6049b55d7a1b1fd3d67aadd3b53c83", func := "palantype/palantypelaw08.TongueMore", spec := "tongueMore", unfollowed := true, recurses := true, plainKeys := false, apart := false }
def TongueMoreSaid : Prop := tongueMoreRow.holds Try.pinned (OpenSpec.ofChange tongueMoreSpec)

/-- ITS FALSE NEIGHBOUR: 'it returns false'. Refute it at one input. -/
def tongueMoreWrong : ChangeSpec := { name := "tongueMore", fn := fun _ => fun
  | [d1, d2, d3] => { results := [.lit (.bool false)], args := [d1, d2, d3] }
  | _ => none }
def TongueMoreWrongFalsely : Prop := tongueMoreRow.holds Try.pinned (OpenSpec.ofChange tongueMoreWrong)

/-- 'palantypelaw08.TongueAny': WHATEVER THE INPUT: true; the input reads as it did. -/
def tongueAnySpec : ChangeSpec := { name := "tongueAny", fn := fun _ => fun
  | [d1, d2, d3, d4, d5, d6] => { results := [.lit (.bool true)], args := [d1, d2, d3, d4, d5, d6] }
  | _ => none }
def tongueAnyRow : OpenClaim := { program := "ytohahlnhbppnhaa", sum := "eb76c7a83377500363684f46ed7f17079f6049b55d7a1b1fd3d67aadd3b53c83", func := "palantype/palantypelaw08.TongueAny", spec := "tongueAny", unfollowed := true, recurses := true, plainKeys := false, apart := false }
def TongueAnySaid : Prop := tongueAnyRow.holds Try.pinned (OpenSpec.ofChange tongueAnySpec)

/-- ITS FALSE NEIGHBOUR: 'it returns false'. Refute it at one input. -/
def tongueAnyWrong : ChangeSpec := { name := "tongueAny", fn := fun _ => fun
  | [d1, d2, d3, d4, d5, d6] => { results := [.lit (.bool false)], args := [d1, d2, d3, d4, d5, d6] }
  | _ => none }
def TongueAnyWrongFalsely : Prop := tongueAnyRow.holds Try.pinned (OpenSpec.ofChange tongueAnyWrong)

/-- 'palantypelaw08.TongueLevel': WHATEVER THE INPUT: true; the input reads as it did. -/
def tongueLevelSpec : ChangeSpec := { name := "tongueLevel", fn := fun _ => fun
  | [d1, d2, d3] => { results := [.lit (.bool true)], args := [d1, d2, d3] }
  | _ => none }
def tongueLevelRow : OpenClaim := { program := "ytohahlnhbppnhaa", sum := "eb76c7a83377500363684f46ed7f17079f6049b55d7a1b1fd3d67aadd3b53c83", func := "palantype/palantypelaw08.TongueLevel", spec := "tongueLevel", unfollowed := true, recurses := true, plainKeys := false, apart := false }
def TongueLevelSaid : Prop := tongueLevelRow.holds Try.pinned (OpenSpec.ofChange tongueLevelSpec)

/-- ITS FALSE NEIGHBOUR: 'it returns false'. Refute it at one input. -/
def tongueLevelWrong : ChangeSpec := { name := "tongueLevel", fn := fun _ => fun
  | [d1, d2, d3] => { results := [.lit (.bool false)], args := [d1, d2, d3] }
  | _ => none }
def TongueLevelWrongFalsely : Prop := tongueLevelRow.holds Try.pinned (OpenSpec.ofChange tongueLevelWrong)

/- THE SECOND FORM. 'bulk': how many values and letters a reading holds, each counted each time it is reached (what is shared counts as often as it is met; a slice's spare places count too). A statement '..UptoSaid' is the law's where the arguments, and the package variables that the reading takes, are together of bulk at most 1048576: NARROWER than '..Said'. Prove '..Said' where nothing that the law and all that it calls make is longer than what came in: it says more and counts as full. Else prove '..UptoSaid'. A law counts once. -/
mutual
def uptoBulk {H : Type} : DataW H → Nat
  | .lit (.string bytes) => bytes.length + 1
  | .lit _ => 1
  | .nil => 1
  | .ptr d => uptoBulk d + 1
  | .slice elems spare => uptoBulkAll elems + uptoBulkAll spare + 1
  | .agg parts => uptoBulkAll parts + 1
  | .iface _ d => uptoBulk d + 1
  | .map entries => uptoBulkEntries entries + 1
  | .held _ => 1
def uptoBulkAll {H : Type} : List (DataW H) → Nat
  | [] => 0
  | d :: r => uptoBulk d + uptoBulkAll r
def uptoBulkEntries {H : Type} : List (Lit × DataW H) → Nat
  | [] => 0
  | x :: r => uptoBulkEntry x + uptoBulkEntries r
def uptoBulkEntry {H : Type} : Lit × DataW H → Nat
  | (.string bytes, d) => bytes.length + uptoBulk d + 1
  | (_, d) => uptoBulk d + 1
 end
def uptoSmall : (H : Type) → List (DataW H) → Bool := fun _ ds => decide (uptoBulkAll ds ≤ 1048576)
def OpenSpec.upto (s : _root_.Go.ChangeSpec) : _root_.Go.OpenSpec := { _root_.Go.OpenSpec.ofChange s with cond := some uptoSmall }

/-- 'palantypelaw08.TongueMatches', WHERE WHAT IT READS IS OF BULK AT MOST 1048576: true; the input reads as it did. -/
def tongueMatchesUptoRow : OpenClaim := { program := "ytohahlnhbppnhaa", sum := "eb76c7a83377500363684f46ed7f17079f6049b55d7a1b1fd3d67aadd3b53c83", func := "palantype/palantypelaw08.TongueMatches", spec := "tongueMatches", unfollowed := true, recurses := true, plainKeys := false, apart := false, narrowed := true }
def TongueMatchesUptoSaid : Prop := tongueMatchesUptoRow.holds Try.pinned (OpenSpec.upto tongueMatchesSpec)

/-- 'palantypelaw08.TongueCosts', WHERE WHAT IT READS IS OF BULK AT MOST 1048576: true; the input reads as it did. -/
def tongueCostsUptoRow : OpenClaim := { program := "ytohahlnhbppnhaa", sum := "eb76c7a83377500363684f46ed7f17079f6049b55d7a1b1fd3d67aadd3b53c83", func := "palantype/palantypelaw08.TongueCosts", spec := "tongueCosts", unfollowed := true, recurses := true, plainKeys := false, apart := false, narrowed := true }
def TongueCostsUptoSaid : Prop := tongueCostsUptoRow.holds Try.pinned (OpenSpec.upto tongueCostsSpec)

/-- 'palantypelaw08.TongueProofs', WHERE WHAT IT READS IS OF BULK AT MOST 1048576: true; the input reads as it did. -/
def tongueProofsUptoRow : OpenClaim := { program := "ytohahlnhbppnhaa", sum := "eb76c7a83377500363684f46ed7f17079f6049b55d7a1b1fd3d67aadd3b53c83", func := "palantype/palantypelaw08.TongueProofs", spec := "tongueProofs", unfollowed := true, recurses := true, plainKeys := false, apart := false, narrowed := true }
def TongueProofsUptoSaid : Prop := tongueProofsUptoRow.holds Try.pinned (OpenSpec.upto tongueProofsSpec)

/-- 'palantypelaw08.TongueCounts', WHERE WHAT IT READS IS OF BULK AT MOST 1048576: true; the input reads as it did. -/
def tongueCountsUptoRow : OpenClaim := { program := "ytohahlnhbppnhaa", sum := "eb76c7a83377500363684f46ed7f17079f6049b55d7a1b1fd3d67aadd3b53c83", func := "palantype/palantypelaw08.TongueCounts", spec := "tongueCounts", unfollowed := true, recurses := true, plainKeys := false, apart := false, narrowed := true }
def TongueCountsUptoSaid : Prop := tongueCountsUptoRow.holds Try.pinned (OpenSpec.upto tongueCountsSpec)

/-- 'palantypelaw08.TongueTimes', WHERE WHAT IT READS IS OF BULK AT MOST 1048576: true; the input reads as it did. -/
def tongueTimesUptoRow : OpenClaim := { program := "ytohahlnhbppnhaa", sum := "eb76c7a83377500363684f46ed7f17079f6049b55d7a1b1fd3d67aadd3b53c83", func := "palantype/palantypelaw08.TongueTimes", spec := "tongueTimes", unfollowed := true, recurses := true, plainKeys := false, apart := false, narrowed := true }
def TongueTimesUptoSaid : Prop := tongueTimesUptoRow.holds Try.pinned (OpenSpec.upto tongueTimesSpec)

/-- 'palantypelaw08.TongueNames', WHERE WHAT IT READS IS OF BULK AT MOST 1048576: true; the input reads as it did. -/
def tongueNamesUptoRow : OpenClaim := { program := "ytohahlnhbppnhaa", sum := "eb76c7a83377500363684f46ed7f17079f6049b55d7a1b1fd3d67aadd3b53c83", func := "palantype/palantypelaw08.TongueNames", spec := "tongueNames", unfollowed := true, recurses := true, plainKeys := false, apart := false, narrowed := true }
def TongueNamesUptoSaid : Prop := tongueNamesUptoRow.holds Try.pinned (OpenSpec.upto tongueNamesSpec)

/-- 'palantypelaw08.TongueBest', WHERE WHAT IT READS IS OF BULK AT MOST 1048576: true; the input reads as it did. -/
def tongueBestUptoRow : OpenClaim := { program := "ytohahlnhbppnhaa", sum := "eb76c7a83377500363684f46ed7f17079f6049b55d7a1b1fd3d67aadd3b53c83", func := "palantype/palantypelaw08.TongueBest", spec := "tongueBest", unfollowed := true, recurses := true, plainKeys := false, apart := false, narrowed := true }
def TongueBestUptoSaid : Prop := tongueBestUptoRow.holds Try.pinned (OpenSpec.upto tongueBestSpec)

/-- 'palantypelaw08.TongueOnce', WHERE WHAT IT READS IS OF BULK AT MOST 1048576: true; the input reads as it did. -/
def tongueOnceUptoRow : OpenClaim := { program := "ytohahlnhbppnhaa", sum := "eb76c7a83377500363684f46ed7f17079f6049b55d7a1b1fd3d67aadd3b53c83", func := "palantype/palantypelaw08.TongueOnce", spec := "tongueOnce", unfollowed := true, recurses := true, plainKeys := false, apart := false, narrowed := true }
def TongueOnceUptoSaid : Prop := tongueOnceUptoRow.holds Try.pinned (OpenSpec.upto tongueOnceSpec)

/-- 'palantypelaw08.TongueTurned', WHERE WHAT IT READS IS OF BULK AT MOST 1048576: true; the input reads as it did. -/
def tongueTurnedUptoRow : OpenClaim := { program := "ytohahlnhbppnhaa", sum := "eb76c7a83377500363684f46ed7f17079f6049b55d7a1b1fd3d67aadd3b53c83", func := "palantype/palantypelaw08.TongueTurned", spec := "tongueTurned", unfollowed := true, recurses := true, plainKeys := false, apart := false, narrowed := true }
def TongueTurnedUptoSaid : Prop := tongueTurnedUptoRow.holds Try.pinned (OpenSpec.upto tongueTurnedSpec)

/-- 'palantypelaw08.TongueSame', WHERE WHAT IT READS IS OF BULK AT MOST 1048576: true; the input reads as it did. -/
def tongueSameUptoRow : OpenClaim := { program := "ytohahlnhbppnhaa", sum := "eb76c7a83377500363684f46ed7f17079f6049b55d7a1b1fd3d67aadd3b53c83", func := "palantype/palantypelaw08.TongueSame", spec := "tongueSame", unfollowed := true, recurses := true, plainKeys := false, apart := false, narrowed := true }
def TongueSameUptoSaid : Prop := tongueSameUptoRow.holds Try.pinned (OpenSpec.upto tongueSameSpec)

/-- 'palantypelaw08.TongueMore', WHERE WHAT IT READS IS OF BULK AT MOST 1048576: true; the input reads as it did. -/
def tongueMoreUptoRow : OpenClaim := { program := "ytohahlnhbppnhaa", sum := "eb76c7a83377500363684f46ed7f17079f6049b55d7a1b1fd3d67aadd3b53c83", func := "palantype/palantypelaw08.TongueMore", spec := "tongueMore", unfollowed := true, recurses := true, plainKeys := false, apart := false, narrowed := true }
def TongueMoreUptoSaid : Prop := tongueMoreUptoRow.holds Try.pinned (OpenSpec.upto tongueMoreSpec)

/-- 'palantypelaw08.TongueAny', WHERE WHAT IT READS IS OF BULK AT MOST 1048576: true; the input reads as it did. -/
def tongueAnyUptoRow : OpenClaim := { program := "ytohahlnhbppnhaa", sum := "eb76c7a83377500363684f46ed7f17079f6049b55d7a1b1fd3d67aadd3b53c83", func := "palantype/palantypelaw08.TongueAny", spec := "tongueAny", unfollowed := true, recurses := true, plainKeys := false, apart := false, narrowed := true }
def TongueAnyUptoSaid : Prop := tongueAnyUptoRow.holds Try.pinned (OpenSpec.upto tongueAnySpec)

/-- 'palantypelaw08.TongueLevel', WHERE WHAT IT READS IS OF BULK AT MOST 1048576: true; the input reads as it did. -/
def tongueLevelUptoRow : OpenClaim := { program := "ytohahlnhbppnhaa", sum := "eb76c7a83377500363684f46ed7f17079f6049b55d7a1b1fd3d67aadd3b53c83", func := "palantype/palantypelaw08.TongueLevel", spec := "tongueLevel", unfollowed := true, recurses := true, plainKeys := false, apart := false, narrowed := true }
def TongueLevelUptoSaid : Prop := tongueLevelUptoRow.holds Try.pinned (OpenSpec.upto tongueLevelSpec)

end Rows
end Go.Proofs.Ytohahlnhbppnhaa
