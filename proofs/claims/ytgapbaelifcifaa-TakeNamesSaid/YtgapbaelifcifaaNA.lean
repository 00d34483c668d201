/- What the chapter's examples come to, in numbers. -/
import Derived.Test.YtgapbaelifcifaaLB
import Derived.Test.YtgapbaelifcifaaKD
import Derived.Test.YtgapbaelifcifaaDB
import Derived.Test.YtgapbaelifcifaaFH
namespace Go.Proofs.Ytgapbaelifcifaa
open Go.RowKit

theorem exAt399 : atM 1000 180 60 399 [(400, 500)] = (1, 0) := by decide +kernel
theorem exAt400 : atM 1000 180 60 400 [(400, 500)] = (0, 7) := by decide +kernel
theorem exAt500 : atM 1000 180 60 500 [(400, 500)] = (2, 0) := by decide +kernel
theorem exAt1000 : atM 1000 180 60 1000 [(400, 500)] = (0, 2) := by decide +kernel
theorem exDone0 : doneErr 1000 180 60 400 30 [(400, 500)] [(0, 1, 60), (1, 2, 0), (0, 1, 300)] [1, 0, 2, 1, 0] [(1, 10), (1, 10), (1, 10), (1, 10), (1, 10)] = 0 := by decide +kernel
theorem exDone1 : doneErr 1000 180 60 400 30 [(400, 500)] [(0, 1, 60), (1, 2, 0), (0, 1, 300)] [1, 0, 2, 1] [(1, 10), (1, 10), (1, 10), (1, 10), (1, 10)] = 2 := by decide +kernel
theorem exDone2 : doneErr 1000 180 60 400 30 [(400, 500)] [(0, 1, 60), (1, 2, 0), (0, 1, 300)] [1, 0, 2, 1, 0] [(1, 10), (1, 10), (1, 10), (1, 10)] = 1 := by decide +kernel
theorem exEnds : endsM [(0, 180), (180, 400), (500, 680), (680, 860), (860, 1000)] [(1, 10), (1, 10), (1, 10), (1, 10), (1, 10)] = [370, 630, 870, 1050, 1150] := by decide +kernel
theorem exErr0 : reliefErr 1000 180 60 400 30 [(400, 500)] [(0, 1, 60), (1, 2, 0), (0, 1, 300)] [1, 0, 2, 1, 0] 2 600 = 0 := by decide +kernel
theorem exErr1 : reliefErr 1000 180 60 400 30 [(400, 500)] [(0, 1, 60), (1, 2, 0), (0, 1, 300)] [1, 0, 2, 1, 0] 1 600 = 0 := by decide +kernel
theorem exErr2 : reliefErr 1000 180 60 400 30 [(400, 500)] [(0, 1, 60), (1, 2, 0), (0, 1, 300)] [0, 0, 2, 1, 0] 1 600 = 9 := by decide +kernel
theorem exErr3 : reliefErr 1000 180 60 400 30 [(400, 500)] [(0, 1, 60), (1, 2, 0), (0, 1, 300)] [1, 0, 2, 1, 0] 3 600 = 2 := by decide +kernel
theorem exDfs2 : dfs (okM 2 400 30 [(0, 1, 60), (1, 2, 0), (0, 1, 300)] [(0, 180), (180, 400), (500, 680), (680, 860), (860, 1000)]) 3 2 [1, 0, 2] = some [1, 0, 2, 1, 0] := by decide +kernel
theorem exDfs1 : dfs (okM 1 400 30 [(0, 1, 60), (1, 2, 0), (0, 1, 300)] [(0, 180), (180, 400), (500, 680), (680, 860), (860, 1000)]) 3 2 [1, 0, 2] = none := by decide +kernel
theorem exDfsT : dfs (okM (-1) 400 30 [(0, 1, 60), (1, 2, 0)] [(0, 180), (180, 400), (500, 680), (680, 860), (860, 1000)]) 2 5 [] = none := by decide +kernel
theorem exTwo3 : dfs (okM (-1) 400 30 [(0, 1, 60), (1, 2, 0)] ([(0, 180), (180, 400), (500, 680), (680, 860), (860, 1000)].take 3)) 2 3 [] = none := by decide +kernel
theorem exTwo2 : (dfs (okM (-1) 400 30 [(0, 1, 60), (1, 2, 0)] ([(0, 180), (180, 400), (500, 680), (680, 860), (860, 1000)].take 2)) 2 2 []).isSome = true := by decide +kernel
theorem exTwo1 : (dfs (okM (-1) 400 30 [(0, 1, 60), (1, 2, 0)] ([(0, 180), (180, 400), (500, 680), (680, 860), (860, 1000)].take 1)) 2 1 []).isSome = true := by decide +kernel
theorem exServe1 : serveErr 1000 180 60 400 30 [(400, 500)] [(0, 1, 60), (1, 2, 0)] = 0 := by decide +kernel
theorem exServeN : serveErr 1000 180 60 400 30 [(0, 1000)] [(0, 1, 60), (1, 2, 0)] = 0 := by decide +kernel
theorem exTakesN : takesOf 1000 180 60 [(0, 1000)] = [] := by decide +kernel
theorem exSitN : sitOk 1000 180 60 [(0, 1000)] = true := by decide +kernel
theorem exLong : sitErr 1000 20 20 [(400, 500)] = 3 := by decide +kernel
theorem exNil : sitErr 0 0 0 [] = 1 := by decide +kernel
theorem exOffNil : offOk 0 0 [] = false := by decide +kernel

theorem exAsc : Asc 0 1000 ([(0, 180), (180, 400), (500, 680), (680, 860), (860, 1000)] : List (Int × Int)) := by
  obtain ⟨-, h, -, -⟩ := takes_all exSit
  rw [exTakes] at h
  exact h

theorem exBefore : IsBefore ([(0, 180), (180, 400), (500, 680), (680, 860), (860, 1000)] : List (Int × Int)) 600 3 := ⟨by decide, by decide, by decide⟩

theorem exOpen (s : Sv) (hs : s.delay = 30) : openM s [(0, 1, 60), (1, 2, 0), (0, 1, 300)] [(0, 180), (180, 400), (500, 680), (680, 860), (860, 1000)] [1, 0, 2, 1, 0] 2 600 5 = [2] := by
  have h : openM s [(0, 1, 60), (1, 2, 0), (0, 1, 300)] [(0, 180), (180, 400), (500, 680), (680, 860), (860, 1000)] [1, 0, 2, 1, 0] 2 600 5 = (List.range 5).filter fun k => decide (([1, 0, 2, 1, 0] : List Nat).getD k 0 = 2) && (decide ((([(0, 180), (180, 400), (500, 680), (680, 860), (860, 1000)] : List (Int × Int)).getD k (0, 0)).1 < 600) && decide (600 < doneM [(0, 180), (180, 400), (500, 680), (680, 860), (860, 1000)] k (([(0, 1, 60), (1, 2, 0), (0, 1, 300)] : List (Int × Int × Int)).getD 2 (0, 0, 0)).2.1 s.delay)) := rfl
  rw [h, hs]
  decide +kernel

theorem exRelief2 {w w' : World} {e : Ending} (h : ReliefPost 1000 180 60 400 30 [(400, 500)] [(0, 1, 60), (1, 2, 0), (0, 1, 300)] [1, 0, 2, 1, 0] 2 600 w e w') :
    ∃ (aa oa : Option Addr) (ac oc : Nat), e = .returned (.tuple #[.slice aa 5 ac, .slice oa 1 oc, .int .i64 0]) ∧ Ints w' aa [1, 0, 2, 1, 0] ∧ Ints w' oa [2] ∧ Below w.heap.size w w' := by
  obtain ⟨hb, ⟨h1, _⟩ | ⟨_, ⟨rfl, rc, hlt, hd⟩ | ⟨a, b, ac, bn, bc, A, s, hs, rfl, hA, hbest, hl, hO⟩⟩⟩ := h
  · exact absurd exErr0 h1
  · rw [exTakes] at hd
    exact ((relief_some (rel := 2) (R := [1, 0, 2, 1, 0]) exAsc (by decide) exBefore rfl exPath exDfs2).2 rc hd).elim
  · rw [exTakes] at hbest hl hO
    have hX := (relief_some (rel := 2) (R := [1, 0, 2, 1, 0]) exAsc (by decide) exBefore rfl exPath exDfs2).1 A hbest
    subst hX
    have ho : openM s [(0, 1, 60), (1, 2, 0), (0, 1, 300)] [(0, 180), (180, 400), (500, 680), (680, 860), (860, 1000)] (([1, 0, 2, 1, 0] : List Int).map Int.toNat) (2 : Int).toNat 600 ([(0, 180), (180, 400), (500, 680), (680, 860), (860, 1000)] : List (Int × Int)).length = [2] := exOpen s hs
    rw [ho] at hl hO
    simp only [List.length_cons, List.length_nil] at hl
    subst hl
    exact ⟨a, b, ac, bc, rfl, hA, hO, hb⟩

theorem exRelief1 {w w' : World} {e : Ending} (h : ReliefPost 1000 180 60 400 30 [(400, 500)] [(0, 1, 60), (1, 2, 0), (0, 1, 300)] [1, 0, 2, 1, 0] 1 600 w e w') :
    e = .returned (.tuple #[.slice none 0 0, .slice none 0 0, .int .i64 7]) ∧ Below w.heap.size w w' := by
  obtain ⟨hb, ⟨h1, _⟩ | ⟨_, ⟨rfl, rc, hlt, hd⟩ | ⟨a, b, ac, bn, bc, A, s, hs, rfl, hA, hbest, hl, hO⟩⟩⟩ := h
  · exact absurd exErr1 h1
  · exact ⟨rfl, hb⟩
  · rw [exTakes] at hbest
    exact (relief_none (rel := 1) (R := [1, 0, 2, 1, 0]) exAsc (by decide) exBefore rfl exPath exDfs1 hbest).elim

theorem exReliefErr {Z : List Int} {rp x : Int} {w w' : World} {e : Ending} (h : ReliefPost 1000 180 60 400 30 [(400, 500)] [(0, 1, 60), (1, 2, 0), (0, 1, 300)] Z rp 600 w e w') (hx : reliefErr 1000 180 60 400 30 [(400, 500)] [(0, 1, 60), (1, 2, 0), (0, 1, 300)] Z rp 600 = x) (h0 : x ≠ 0) :
    e = .returned (.tuple #[.slice none 0 0, .slice none 0 0, .int .i64 x]) ∧ Below w.heap.size w w' := by
  obtain ⟨hb, ⟨_, h2⟩ | ⟨h1, _⟩⟩ := h
  · rw [hx] at h2
    exact ⟨h2, hb⟩
  · rw [hx] at h1
    exact absurd h1 h0

theorem exFails {w w' : World} {e : Ending} (h : FailsPost 1000 180 60 400 30 [(400, 500)] [(0, 1, 60), (1, 2, 0), (0, 1, 300)] w e w') : e = .returned (.tuple #[.int .i64 0, .int .i64 7]) ∧ Below w.heap.size w w' := by
  obtain ⟨hb, ⟨h1, _⟩ | ⟨_, _, ⟨rfl, hR⟩ | ⟨q, rfl, hq, hp, hd⟩⟩⟩ := h
  · exact absurd exServe h1
  · exact ⟨rfl, hb⟩
  · rw [exTakes] at hd
    exact (exDead q hd).elim

theorem exNone : noneM 400 30 [(0, 1, 60), (1, 2, 0)] [(0, 180), (180, 400), (500, 680), (680, 860), (860, 1000)] 3 ∧ ∀ k, k < 2 → ¬ noneM 400 30 [(0, 1, 60), (1, 2, 0)] [(0, 180), (180, 400), (500, 680), (680, 860), (860, 1000)] (k + 1) := by
  refine ⟨exTwo3, fun k hk h => ?_⟩
  match k, hk with
  | 0, _ => have := exTwo1; rw [show dfs (okM (-1) 400 30 [(0, 1, 60), (1, 2, 0)] ([(0, 180), (180, 400), (500, 680), (680, 860), (860, 1000)].take 1)) 2 1 [] = none from h] at this; cases this
  | 1, _ => have := exTwo2; rw [show dfs (okM (-1) 400 30 [(0, 1, 60), (1, 2, 0)] ([(0, 180), (180, 400), (500, 680), (680, 860), (860, 1000)].take 2)) 2 2 [] = none from h] at this; cases this

theorem exFails1 {w w' : World} {e : Ending} (h : FailsPost 1000 180 60 400 30 [(400, 500)] [(0, 1, 60), (1, 2, 0)] w e w') : e = .returned (.tuple #[.int .i64 2, .int .i64 0]) ∧ Below w.heap.size w w' := by
  obtain ⟨hb, ⟨h1, _⟩ | ⟨_, _, ⟨rfl, R, hR⟩ | ⟨q, rfl, hq, hp, hd⟩⟩⟩ := h
  · exact absurd exServe1 h1
  · rw [exTakes] at hR
    exact (dfs_no exAsc (by decide) exDfsT hR.1 (by have := hR.2.1; rw [Nat.zero_add] at this; exact this)).elim
  · rw [exTakes] at hq hp hd
    have := fails_same (z := 2) exAsc (by decide) hq hp hd (.inr ⟨2, rfl, by decide, exNone.1, exNone.2⟩)
    rw [← this]
    exact ⟨rfl, hb⟩

theorem exRota1 {w w' : World} {e : Ending} (h : RotaPost 1000 180 60 400 30 [(400, 500)] [(0, 1, 60), (1, 2, 0)] w e w') : e = .returned (.tuple #[.slice none 0 0, .int .i64 9]) ∧ Below w.heap.size w w' := by
  obtain ⟨hb, ⟨h1, _⟩ | ⟨_, _, ⟨va, vc, R, rfl, hI, hR⟩ | ⟨rfl, hdead⟩⟩⟩ := h
  · exact absurd exServe1 h1
  · rw [exTakes] at hR
    exact (dfs_no exAsc (by decide) exDfsT hR.1 (by have := hR.2.1; rw [Nat.zero_add] at this; exact this)).elim
  · exact ⟨rfl, hb⟩

theorem exRotaN {w w' : World} {e : Ending} (h : RotaPost 1000 180 60 400 30 [(0, 1000)] [(0, 1, 60), (1, 2, 0)] w e w') : ∃ (va : Option Addr) (vc : Nat), e = .returned (.tuple #[.slice va 0 vc, .int .i64 0]) ∧ Below w.heap.size w w' := by
  obtain ⟨hb, ⟨h1, _⟩ | ⟨_, _, ⟨va, vc, R, rfl, hI, hR⟩ | ⟨rfl, rc, hrc, _⟩⟩⟩ := h
  · exact absurd exServeN h1
  · rw [exTakesN] at hR
    have hl := hR.2.1
    rw [Nat.zero_add] at hl
    have h0 : R.length = 0 := hl
    rw [h0]
    exact ⟨va, vc, rfl, hb⟩
  · rw [exTakesN] at hrc
    simp at hrc

end Go.Proofs.Ytgapbaelifcifaa
