/- Tongue: the numbers of the document's examples. -/
import Derived.Test.YtohahlnhbppnhaaAA
namespace Go.Proofs.Ytohahlnhbppnhaa
open Go.RowKit
set_option linter.unusedSimpArgs false
set_option linter.unusedVariables false
def exL : List Sen := [⟨[4, 7], 10⟩, ⟨[9], 5⟩, ⟨[], 8⟩]
def exR : List Sen := [⟨[4], 6⟩, ⟨[7, 9], 9⟩, ⟨[], 7⟩]
def exS : Spoken := ⟨[0, 10, 14], 3, [(4, 6), (5, 8), (2, 3)]⟩
theorem ex_fault : faultM exL exR = 0 := by decide +kernel
theorem ex_cost : (matchM 3 3 [(1, 2), (1, 0), (1, 1)]).map (costM exL exR) = some 8 := by decide +kernel
theorem ex_valid : valP exS = true := by decide +kernel
theorem ex_times : timesN exS 3 = [(7, 9), (18, 21), (20, 24)] := by decide +kernel
theorem ex_keeps : keepsM exS.starts (timesN exS 3) 3 9 = false := by decide +kernel
theorem ex_rest : restM exL exR 0 0 = 4 := by decide +kernel

theorem ex_best : bestM exL exR 0 0 = [(1, 1), (1, 1), (1, 1)] := by decide +kernel

end Go.Proofs.Ytohahlnhbppnhaa
