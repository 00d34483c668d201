/- Tongue, the reference: when an interpreter is done. -/
import Derived.Test.YtohahlnhbppnhaaBD
import Derived.Test.YtohahlnhbppnhaaAO
import Derived.BigQuiet
import Derived.Deep.CutRange
namespace Go.Proofs.Ytohahlnhbppnhaa
open Go.RowKit
set_option linter.unusedSimpArgs false
set_option linter.unusedVariables false

/-- The least seconds of all needs, or the greatest ones. -/
def endsM (s : Spoken) (hi : Bool) : List Int := s.needs.map fun p => if hi then p.2 else p.1

def endD (s : Spoken) (hi : Bool) (j : Nat) : Int := if hi then highs s j else lows s j

theorem ends_take (s : Spoken) (hi : Bool) (j : Nat) (hj : j < s.needs.length) : (endsM s hi).take (j + 1) = (endsM s hi).take j ++ [endD s hi j] := by
  unfold endsM endD highs lows
  rw [List.take_add_one, List.getElem?_map, List.getElem?_eq_getElem hj, List.getD_eq_getElem?_getD, List.getElem?_eq_getElem hj]
  cases hi <;> rfl

theorem ends_get (s : Spoken) (hi : Bool) (j : Nat) (hj : j < s.needs.length) : (endsM s hi).getD j 0 = endD s hi j := by
  unfold endsM endD highs lows
  rw [List.getD_eq_getElem?_getD, List.getElem?_map, List.getElem?_eq_getElem hj, List.getD_eq_getElem?_getD, List.getElem?_eq_getElem hj]
  cases hi <;> rfl

set_option maxRecDepth 100000 in
set_option maxHeartbeats 1000000 in
theorem ends_any (s : Spoken) (hi : Bool) (g : Int) (ns nc ms mc : Nat) (sa na : Option Addr) (w : World) (h2 : s.needs.length = ms) (hm : ms ≤ 1000) (hN : PairsAt w na s.needs) :
    Calls Try.prog 42 #[.agg #[.slice sa ns nc, .int .i64 g, .slice na ms mc], .bool hi] w fun e w' => ∃ a cap, e = .returned (.slice a ms cap) ∧ IntsAt w' a (endsM s hi) ∧ Below w.heap.size w w' := by
  obtain ⟨i0, hi0, hz0, hz1, hz2⟩ := info_parts Try.info3
  obtain ⟨W0, hW0⟩ : ∃ X, X = w.alloc (.cells #[.slice sa ns nc, .int .i64 g, .slice na ms mc] 73) := ⟨_, rfl⟩
  have hB0 : Below w.heap.size w W0 := by rw [hW0]; exact below_alloc _ _
  have p2' : W0.cell? ⟨w.heap.size, 2, none⟩ = some (.slice na ms mc) := by rw [hW0]; simp [go_sem]
  have hN0 := hN.grown hB0
  have HM := hid h2
  have HTK : Hid (∀ j, j < ms → (endsM s hi).take (j + 1) = (endsM s hi).take j ++ [endD s hi j]) := hid (fun j hj => ends_take s hi j (by omega))
  have HFI : Hid ((endsM s hi).take ms = endsM s hi) := hid (List.take_of_length_le (by unfold endsM; simp; omega))
  have HLN : Hid ((endsM s hi).length = ms) := hid (by unfold endsM; simp; omega)
  have HED : Hid (∀ j, endD s hi j = if hi then (s.needs.getD j (0, 0)).2 else (s.needs.getD j (0, 0)).1) := hid (fun j => rfl)
  have gp := lt_of_cell p2'
  clear hN h2
  go_enter Try.func42, Try.ntmps42
  go_wp2_with fail
  rw [← hW0]
  clear hW0
  go_loopw [5, 6] (fun v i wr => ∃ j : Nat, j ≤ ms ∧ i = .int .i64 j ∧ wr.ownsRow W0.heap.size 3 1 v j (((endsM s hi).take j).map fun z => .int .i64 z) ∧ Below W0.heap.size W0 wr) (fun _ i _ => ms - (intOf i).toNat)
  case atStart => exact ⟨0, Nat.zero_le _, rfl, World.ownsRow_nil _ _ _ _, Below.refl _ _⟩
  case round =>
    obtain ⟨j, hj, rfl, hown, hB⟩ := hrel
    obtain ⟨va, vc, rfl⟩ := owns_shape hown
    have p2 := cell_grown hB p2'
    have gq := lt_of_cell p2
    by_cases hlt : j < ms
    · have hlt' : (j : Int) < ms := by omega
      obtain ⟨b1, o1, e1, c1, c2⟩ := (hN0.grown hB) j (by rw [HM.out]; exact hlt)
      subst e1
      have g1 := lt_of_cell c1
      have htk := HTK.out j hlt
      have hed := HED.out j
      generalize (s.needs.getD j (0, 0)).1 = lo at c1 hed
      generalize (s.needs.getD j (0, 0)).2 = up at c2 hed
      rw [hed] at htk
      have HT := hid htk
      have hsz := hB.size
      clear htk hed
      cases hi
      · go_wp2_with (at_builtin; refine wpList_append_own_at _ rfl _ _ 41 rfl W0.heap.size 3 i0 (.int .i64 0) 1 8 Try.underlying41 hi0 hz0 hz1 hz2 rfl (by decide) _ _ _ rfl (hown.alloc _) ⟨wr.heap.size, 0, none⟩ 1 1 [.int .i64 lo] rfl rfl (cell_one_new _ _ _) (by simp [Value.oneCell']) (by unfold maxLen; omega) (by omega) (by simp; omega) ?_; intro v' w5 hown' hgrow hnil hloc; have hb5 : Below W0.heap.size wr w5 := (((Below.refl W0.heap.size wr).alloc (by omega) _).grown hgrow (by simp; omega) (fun r e => (hown.lt r e).1)))
        go_roundw
        case rel => exact ⟨j + 1, by omega, by go_num, by rw [HT.out, List.map_append]; exact hown', hB.trans hb5⟩
        case measure => simp [intOf]; omega
      · go_wp2_with (at_builtin; refine wpList_append_own_at _ rfl _ _ 41 rfl W0.heap.size 3 i0 (.int .i64 0) 1 8 Try.underlying41 hi0 hz0 hz1 hz2 rfl (by decide) _ _ _ rfl (hown.alloc _) ⟨wr.heap.size, 0, none⟩ 1 1 [.int .i64 up] rfl rfl (cell_one_new _ _ _) (by simp [Value.oneCell']) (by unfold maxLen; omega) (by omega) (by simp; omega) ?_; intro v' w5 hown' hgrow hnil hloc; have hb5 : Below W0.heap.size wr w5 := (((Below.refl W0.heap.size wr).alloc (by omega) _).grown hgrow (by simp; omega) (fun r e => (hown.lt r e).1)))
        go_roundw
        case rel => exact ⟨j + 1, by omega, by go_num, by rw [HT.out, List.map_append]; exact hown', hB.trans hb5⟩
        case measure => simp [intOf]; omega
    · have hjn : j = ms := by omega
      subst hjn
      rw [HFI.out] at hown
      have hin := ints_of_owns (L := endsM s hi) (a := va) (cap := vc) (W := wr) (e := 3) (base := W0.heap.size) (by rw [HLN.out]; exact hown)
      go_wp2_with fail
      go_ret
      exact ⟨va, vc, rfl, hin, hB0.trans (hB.mono hB0.size)⟩

set_option maxRecDepth 100000 in
set_option maxHeartbeats 1000000 in
/-- When an interpreter is done with a sentence. -/
theorem refDone_any (s : Spoken) (hv : valP s = true) (E : List Int) (ns nc ms mc ec : Nat) (sa na ea : Option Addr) (h1 : s.starts.length = ns) (hE : E.length = ns) (hEb : ∀ j, j < ns → 1 ≤ E.getD j 0 ∧ E.getD j 0 ≤ 60) (i : Nat) : ∀ w, i < ns → IntsAt w sa s.starts → IntsAt w ea E →
    Calls Try.prog 43 #[.agg #[.slice sa ns nc, .int .i64 s.lag, .slice na ms mc], .slice ea ns ec, .int .i64 (i : Int)] w fun e w' => e = .returned (.int .i64 (freeN s.starts (fun j => E.getD j 0) s.lag (i + 1))) ∧ Below w.heap.size w w' := by
  obtain ⟨v1, v2, -, v4, -, -⟩ := valP_parts hv
  rw [h1] at v1 v2
  obtain ⟨g, hg⟩ : ∃ g, s.lag = g := ⟨_, rfl⟩
  rw [hg] at v4
  simp only [hg]
  have HTOP : Hid (∀ i, i ≤ ns → 0 ≤ freeN s.starts (fun j => E.getD j 0) g i ∧ freeN s.starts (fun j => E.getD j 0) g i ≤ 100060 + 60 * i) := hid (fun i hi => ⟨freeN_pos _ _ _ _ (fun j hj => by have := hEb j (by omega); omega), freeN_top _ _ _ _ (fun j hj => (v2 j (by omega)).2) v4.2 (fun j hj => (hEb j (by omega)).2)⟩)
  have HF : Hid (∀ i, freeN s.starts (fun j => E.getD j 0) g (i + 1) = max (s.starts.getD i 0 + g) (freeN s.starts (fun j => E.getD j 0) g i) + E.getD i 0) := hid (fun i => rfl)
  have HF0 : Hid (freeN s.starts (fun j => E.getD j 0) g 0 = 0) := hid rfl
  have HL := hid h1
  have HE := hid hE
  have V2 := hid v2
  have EB := hid hEb
  clear hv h1 hE hg v2 hEb
  generalize hfn : freeN s.starts (fun j => E.getD j 0) g = f at *
  clear hfn
  induction i with
  | zero =>
    intro w hi hS hI
    obtain ⟨b1, o1, e1, c1⟩ := hS 0 (by rw [HL.out]; exact hi)
    obtain ⟨b2, o2, e2, c2⟩ := hI 0 (by rw [HE.out]; exact hi)
    subst e1 e2
    have x1 := V2.out 0 hi
    have x2 := EB.out 0 hi
    have hf := HF.out 0
    rw [HF0.out] at hf
    generalize s.starts.getD 0 0 = x at c1 x1 hf
    generalize E.getD 0 0 = y at c2 x2 hf
    have hf' : f (0 + 1) = x + g + y := by rw [hf]; omega
    have HFF := hid hf'
    clear hf hf'
    have hi0 : (0 : Int) < (ns : Int) := by omega
    have hb0 := below_alloc w (.cells #[.slice (some ⟨b1, o1, none⟩) ns nc, .int .i64 g, .slice na ms mc] 73)
    obtain ⟨W0, hW0⟩ : ∃ X, X = w.alloc (.cells #[.slice (some ⟨b1, o1, none⟩) ns nc, .int .i64 g, .slice na ms mc] 73) := ⟨_, rfl⟩
    have p0 : W0.cell? ⟨w.heap.size, 0, none⟩ = some (.slice (some ⟨b1, o1, none⟩) ns nc) := by rw [hW0]; simp [go_sem]
    have p1 : W0.cell? ⟨w.heap.size, 1, none⟩ = some (.int .i64 g) := by rw [hW0]; simp [go_sem]
    rw [← hW0] at hb0
    replace c1 := cell_grown hb0 c1
    replace c2 := cell_grown hb0 c2
    have w1 : IntKind.i64.wrap (x + g) = x + g := by rw [IntKind.wrap_i64]; omega
    go_enter Try.func43, Try.ntmps43
    go_upto_region 1 with fail
    rw [← hW0]
    clear hW0
    have oa : ∀ p : Over W0, p.w.cell? ⟨w.heap.size, 0, none⟩ = some (.slice (some ⟨b1, o1, none⟩) ns nc) := fun p => p.cell p0
    have ob : ∀ p : Over W0, p.w.cell? ⟨w.heap.size, 1, none⟩ = some (.int .i64 g) := fun p => p.cell p1
    have oc : ∀ p : Over W0, p.w.cell? ⟨b1, o1 + 0, none⟩ = some (.int .i64 x) := fun p => p.cell c1
    have oc' : ∀ p : Over W0, p.w.cell? ⟨b1, o1, none⟩ = some (.int .i64 x) := fun p => p.cell c1
    refine wp_region_over W0 (Below.refl _ _) (by kernel_rfl) (by kernel_rfl) ?_
    repeat (go_big_quiet_step (fail))
    refine wpQuiet_nil ?_
    intro wz hw'
    have hbz := over_below hw'
    clear hw' oa ob oc oc' w1
    replace c2 := cell_grown hbz c2
    have c2' : wz.cell? ⟨b2, o2, none⟩ = some (.int .i64 y) := c2
    have g2 := lt_of_cell c2
    go_wp2_with fail
    go_ret
    exact ⟨by rw [HFF.out]; rfl, below_then hb0 hbz⟩
  | succ i ih =>
    intro w hi hS hI
    have hih := fun W (hb : Below w.heap.size w W) => ih W (by omega) (hS.grown hb) (hI.grown hb)
    obtain ⟨b1, o1, e1, c1⟩ := hS (i + 1) (by rw [HL.out]; exact hi)
    obtain ⟨b2, o2, e2, c2⟩ := hI (i + 1) (by rw [HE.out]; exact hi)
    subst e1 e2
    have x1 := V2.out (i + 1) hi
    have x2 := EB.out (i + 1) hi
    have hf := HF.out (i + 1)
    have ht := HTOP.out (i + 1) (by omega)
    generalize s.starts.getD (i + 1) 0 = x at c1 x1 hf
    generalize E.getD (i + 1) 0 = y at c2 x2 hf
    generalize f (i + 1) = z at hf hih ht
    obtain ⟨k, hk⟩ : ∃ k, k = i + 1 := ⟨_, rfl⟩
    rw [← hk] at hi hf c1 c2
    simp only [← hk]
    obtain ⟨mx, hmx⟩ : ∃ m, (if x + g < z then z else x + g) = m := ⟨_, rfl⟩
    have hmm : max (x + g) z = mx := by rw [← hmx]; split <;> omega
    rw [hmm] at hf
    have m1 : 0 ≤ mx ∧ mx ≤ 110000 := by omega
    have HFF := hid hf
    clear hf hmm
    have hi0 : (k : Int) < (ns : Int) := by omega
    have hk0 : (0 : Int) < (k : Int) := by omega
    have hk0' : 0 < k := by omega
    have hk1 : (k : Int) - 1 = (i : Int) := by omega
    have hb0 := below_alloc w (.cells #[.slice (some ⟨b1, o1, none⟩) ns nc, .int .i64 g, .slice na ms mc] 73)
    obtain ⟨W0, hW0⟩ : ∃ X, X = w.alloc (.cells #[.slice (some ⟨b1, o1, none⟩) ns nc, .int .i64 g, .slice na ms mc] 73) := ⟨_, rfl⟩
    have p0 : W0.cell? ⟨w.heap.size, 0, none⟩ = some (.slice (some ⟨b1, o1, none⟩) ns nc) := by rw [hW0]; simp [go_sem]
    have p1 : W0.cell? ⟨w.heap.size, 1, none⟩ = some (.int .i64 g) := by rw [hW0]; simp [go_sem]
    have p2 : W0.cell? ⟨w.heap.size, 2, none⟩ = some (.slice na ms mc) := by rw [hW0]; simp [go_sem]
    rw [← hW0] at hb0
    replace c1 := cell_grown hb0 c1
    replace c2 := cell_grown hb0 c2
    have w1 : IntKind.i64.wrap (x + g) = x + g := by rw [IntKind.wrap_i64]; omega
    have hkz : (0 : Int) ≤ (k : Int) := by omega
    have HK := hid hk
    clear hk
    go_enter Try.func43, Try.ntmps43
    go_upto_region 1 with fail
    rw [← hW0]
    clear hW0
    have oa : ∀ p : Over W0, p.w.cell? ⟨w.heap.size, 0, none⟩ = some (.slice (some ⟨b1, o1, none⟩) ns nc) := fun p => p.cell p0
    have ob : ∀ p : Over W0, p.w.cell? ⟨w.heap.size, 1, none⟩ = some (.int .i64 g) := fun p => p.cell p1
    have oc : ∀ p : Over W0, p.w.cell? ⟨b1, o1 + k, none⟩ = some (.int .i64 x) := fun p => p.cell c1
    refine wp_region_over W0 (Below.refl _ _) (by kernel_rfl) (by kernel_rfl) ?_
    repeat (go_big_quiet_step (fail))
    refine wpQuiet_nil ?_
    intro wz hw'
    have hbz := over_below hw'
    clear hw' oa ob oc w1
    replace c2 := cell_grown hbz c2
    have g2 := lt_of_cell c2
    replace p0 := cell_grown hbz p0
    replace p1 := cell_grown hbz p1
    replace p2 := cell_grown hbz p2
    have g0 := lt_of_cell p0
    have hbw := below_then hb0 hbz
    go_wp2_with (go_at_call 43; refine (hih _ hbw).mono ?_; rintro e wq ⟨rfl, hq⟩; replace c2 := cell_grown hq c2; replace g2 := lt_of_cell c2; replace hbw := below_then hbw hq)
    go_ret
    exact ⟨by rw [HFF.out]; rfl, hbw⟩

end Go.Proofs.Ytohahlnhbppnhaa
