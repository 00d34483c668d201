/- Tongue, the laws: a table's rows, copied. -/
import Derived.Test.YtohahlnhbppnhaaCB
import Derived.Test.YtohahlnhbppnhaaBZ
import Derived.Test.YtohahlnhbppnhaaAE
namespace Go.Proofs.Ytohahlnhbppnhaa
open Go.RowKit
set_option linter.unusedSimpArgs false
set_option linter.unusedVariables false

theorem IntsAt.keptg {W W' : World} {a : Option Addr} {L : List Int} {row : Option Nat} (h : IntsAt W a L) (hg : W.grownBy W' row) (hne : L ≠ [] → ∀ ad, a = some ad → row ≠ some ad.block) : IntsAt W' a L := fun i hi => by
  obtain ⟨b, off, ha, hc⟩ := h i hi
  have hn : L ≠ [] := fun e => by rw [e] at hi; exact absurd hi (Nat.not_lt_zero _)
  have hr := hne hn _ ha
  exact ⟨b, off, ha, cell_kept hg (fun e => hr e.symm) hc⟩

/-- Copies of the first j rows of a table. -/
structure CopyG (W : World) (B : Nat) (v : Value) (j : Nat) (T : List (List Int)) (ra : Nat → Option Addr) (rc : Nat → Nat) : Prop where
  own : W.ownsRow B 41 1 v j ((List.range j).map fun i => .slice (ra i) (T.getD i []).length (rc i))
  ints : ∀ i, i < j → IntsAt W (ra i) (T.getD i [])
  apart : ∀ i, i < j → (T.getD i []) ≠ [] → ∀ ad, ra i = some ad → v.ownBlock ≠ some ad.block

theorem CopyG.nil (W : World) (B : Nat) (T : List (List Int)) (ra : Nat → Option Addr) (rc : Nat → Nat) : CopyG W B (.slice none 0 0) 0 T ra rc :=
  ⟨World.ownsRow_nil _ _ _ _, fun i h => by omega, fun i h => by omega⟩

theorem ints_lt {W : World} {a : Option Addr} {L : List Int} (h : IntsAt W a L) (hn : L ≠ []) {ad : Addr} (ha : a = some ad) : ad.block < W.heap.size := by
  obtain ⟨b, off, e, hc⟩ := h 0 (List.length_pos_iff.2 hn)
  rw [e] at ha
  cases ha
  exact lt_of_cell hc

theorem CopyG.push {W w5 : World} {B j : Nat} {v v' : Value} {T : List (List Int)} {ra : Nat → Option Addr} {rc : Nat → Nat} (h : CopyG W B v j T ra rc) {nb : Option Addr} {nc : Nat} (hI : IntsAt W nb (T.getD j [])) (hne : ∀ ad, nb = some ad → v.ownBlock ≠ some ad.block)
    (hown : w5.ownsRow B 41 1 v' (j + 1) (((List.range j).map fun i => .slice (ra i) (T.getD i []).length (rc i)) ++ [.slice nb (T.getD j []).length nc])) (hgrow : W.grownBy w5 v.ownBlock) (hloc : v'.ownBlock = v.ownBlock ∨ v'.ownBlock = some W.heap.size) :
    CopyG w5 B v' (j + 1) T (fun i => if i = j then nb else ra i) (fun i => if i = j then nc else rc i) := by
  have hapart : ∀ i, i < j + 1 → (T.getD i []) ≠ [] → ∀ ad, (if i = j then nb else ra i) = some ad → v.ownBlock ≠ some ad.block ∧ ad.block < W.heap.size := fun i hi hn ad e => by
    by_cases ej : i = j
    · subst ej
      rw [if_pos rfl] at e
      exact ⟨hne ad e, ints_lt hI hn e⟩
    · rw [if_neg ej] at e
      exact ⟨h.apart i (by omega) hn ad e, ints_lt (h.ints i (by omega)) hn e⟩
  refine ⟨?_, fun i hi => ?_, fun i hi hn ad e => ?_⟩
  · rw [List.range_succ, List.map_append]
    have e1 : ((List.range j).map fun i => Value.slice (if i = j then nb else ra i) (T.getD i []).length (if i = j then nc else rc i)) = (List.range j).map fun i => Value.slice (ra i) (T.getD i []).length (rc i) := List.map_congr_left fun i hi => by
      have := List.mem_range.1 hi
      rw [if_neg (by omega), if_neg (by omega)]
    rw [e1]
    simpa using hown
  · have hx : IntsAt W (if i = j then nb else ra i) (T.getD i []) := by
      by_cases ej : i = j
      · subst ej; rw [if_pos rfl]; exact hI
      · rw [if_neg ej]; exact h.ints i (by omega)
    exact hx.keptg hgrow (fun hn ad e => (hapart i hi hn ad e).1)
  · obtain ⟨h1, h2⟩ := hapart i hi hn ad e
    rcases hloc with e2 | e2
    · rw [e2]; exact h1
    · rw [e2]; intro e3; injection e3 with e3; omega

theorem CopyG.grown {W W' : World} {B j : Nat} {v : Value} {T : List (List Int)} {ra : Nat → Option Addr} {rc : Nat → Nat} (h : CopyG W B v j T ra rc) (hb : Below W.heap.size W W') : CopyG W' B v j T ra rc :=
  ⟨book_owns h.own (grown_none hb) (fun r e => by cases e), fun i hi => (h.ints i hi).grown hb, h.apart⟩

theorem CopyG.at {W : World} {B : Nat} {a : Option Addr} {c : Nat} {T : List (List Int)} {ra : Nat → Option Addr} {rc : Nat → Nat} (h : CopyG W B (.slice a T.length c) T.length T ra rc) : GridAt W a T := by
  intro i hi
  rcases h.own.2 with ⟨hv, h0⟩ | ⟨b, cap', cur, hv, _⟩
  · omega
  · simp only [Value.slice.injEq] at hv
    obtain ⟨rfl, -, rfl⟩ := hv
    have c0 := h.own.cells (g := b) rfl i (.slice (ra i) (T.getD i []).length (rc i)) (by rw [List.getElem?_map, List.getElem?_range hi]; rfl)
    rw [add_plain, Nat.zero_add] at c0
    exact ⟨b, 0, ra i, rc i, rfl, by rw [Nat.zero_add]; exact c0, h.ints i hi⟩

set_option maxRecDepth 100000 in
set_option maxHeartbeats 1000000 in
theorem rows_any (T : List (List Int)) (t tc : Nat) (ta : Option Addr) (w : World) (hT : T.length = t) (ht : t ≤ 1000) (hk : ∀ r ∈ T, r.length ≤ 1000) (hG : GridAt w ta T) :
    Calls Try.prog 33 #[.slice ta t tc] w fun e w' => ∃ a c, e = .returned (.slice a t c) ∧ GridAt w' a T ∧ Below w.heap.size w w' := by
  obtain ⟨i1, hi1, hy0, hy1, hy2⟩ := info_parts Try.info41
  have HK : Hid (∀ i, i < t → (T.getD i []).length ≤ 1000) := hid (fun i hi => by
    rw [List.getD_eq_getElem?_getD, List.getElem?_eq_getElem (by omega)]
    exact hk _ (List.getElem_mem _))
  have HT := hid hT
  clear hT hk
  go_enter Try.func33, Try.ntmps33
  go_wp2_with fail
  go_loopw [3, 4] (fun v i wr => ∃ (j : Nat) (ra : Nat → Option Addr) (rc : Nat → Nat), j ≤ t ∧ i = .int .i64 j ∧ CopyG wr w.heap.size v j T ra rc ∧ Below w.heap.size w wr) (fun _ i _ => t - (intOf i).toNat)
  case atStart => exact ⟨0, fun _ => none, fun _ => 0, Nat.zero_le _, rfl, CopyG.nil _ _ _ _ _, Below.refl _ _⟩
  case round =>
    obtain ⟨j, ra, rc, hj, rfl, hC, hB⟩ := hrel
    obtain ⟨va, vc, rfl⟩ := owns_shape hC.own
    by_cases hlt : j < t
    · have hlt' : (j : Int) < t := by omega
      obtain ⟨b1, off1, xa, xc, ea, c1, hI⟩ := hG j (by rw [HT.out]; exact hlt)
      subst ea
      have hln := HK.out j hlt
      replace c1 := cell_grown hB c1
      replace hI := hI.grown hB
      have hLL : (T.getD j []).length = (T.getD j []).length := rfl
      have hlist := fun W hb => list_any (T.getD j []) (T.getD j []).length xc xa W rfl (by omega) (IntsAt.grown (w' := W) hI hb)
      obtain ⟨ln, hlne⟩ : ∃ n, n = (T.getD j []).length := ⟨_, rfl⟩
      rw [← hlne] at hln c1 hlist
      have HLN := hid hlne
      clear hlne hLL hI
      have hsz := hB.size
      have q1 := lt_of_cell c1
      go_upto_region 4 with (first | (go_at_call 54; refine (hlist _ (Below.refl _ _)).mono ?_; clear hlist; rintro e w1 ⟨nb, nc, rfl, hn1, hfr, hb1⟩; have hC2 := (hC.grown hb1).grown (below_alloc w1 (.cells #[.slice nb ln nc] 41)); have hb1s := hb1.size) | (at_builtin; refine wpList_append_own_at _ rfl _ _ 52 rfl w.heap.size 41 i1 (.slice none 0 0) 1 24 Try.underlying52 hi1 hy0 hy1 hy2 rfl (by decide) _ _ _ rfl hC2.own ⟨w1.heap.size, 0, none⟩ 1 1 [.slice nb ln nc] rfl rfl (cell_one_new _ _ _) (by simp [Value.oneCell']) (by unfold maxLen; omega) (by omega) (by simp; omega) ?_; intro v' w5 hown' hgrow hnil hloc))
      have hvo : ∀ ad, nb = some ad → (Value.slice va j vc).ownBlock ≠ some ad.block := fun ad e e2 => by have := (hC.own.lt _ e2).2; have := (hfr ad e).1; omega
      rw [HLN.out] at hown'
      have hC5 := hC2.push (hn1.grown (below_alloc w1 (.cells #[.slice nb ln nc] 41))) hvo hown' hgrow hloc
      have hb5 : Below w.heap.size wr w5 := (((hb1.mono hsz).alloc (by omega) _).grown hgrow (by simp; omega) (fun r e => (hC2.own.lt r e).1))
      clear hC2 hC hvo hown' hgrow hnil hloc hb1 hfr hn1 hb1s
      obtain ⟨xa', xc', rfl⟩ := owns_shape hC5.own
      go_wp2_with fail
      go_roundw
      case rel => exact ⟨j + 1, _, _, by omega, by go_num, hC5, hB.trans hb5⟩
      case measure => simp [intOf]; omega
    · have hjn : j = t := by omega
      subst hjn
      go_wp2_with fail
      go_ret
      exact ⟨va, vc, rfl, CopyG.at (by rw [HT.out]; exact hC), hB⟩

end Go.Proofs.Ytohahlnhbppnhaa
