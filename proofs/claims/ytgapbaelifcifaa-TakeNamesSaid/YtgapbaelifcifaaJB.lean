/- Relieve: the chooser is made; the takes that stay open. -/
import Derived.Test.YtgapbaelifcifaaJA
import Derived.Test.YtgapbaelifcifaaFD
namespace Go.Proofs.Ytgapbaelifcifaa
open Go.RowKit

set_option maxRecDepth 100000 in
set_option maxHeartbeats 1000000 in
theorem without_any (len long short due delay second : Int) (pa ca ta a : Option Addr) (pn pc cn cc tn tc n cap rel : Nat) (w : World) :
    Calls Try.prog 67 #[.agg #[.int .i64 len, .slice pa pn pc, .int .i64 long, .int .i64 short, .slice ca cn cc, .int .i64 due, .int .i64 delay, .slice ta tn tc], .slice a n cap, .int .i64 (rel : Int), .int .i64 second] w fun e w' => e = .returned (.func (.func 83) #[] #[.pointer (some ⟨w.heap.size, 0, none⟩), .pointer (some ⟨w.heap.size + 3, 0, none⟩), .pointer (some ⟨w.heap.size + 1, 0, none⟩), .pointer (some ⟨w.heap.size + 2, 0, none⟩)]) ∧
      Held w' w.heap.size (w.heap.size + 3) (w.heap.size + 1) (w.heap.size + 2) len long short due delay pa ca ta a pn pc cn cc tn tc n cap second rel ∧ Below w.heap.size w w' := by
  go_enter Try.func67, Try.ntmps67
  go_wp2_with fail
  go_ret
  refine ⟨by simp [go_sem], ⟨by simp [go_sem], by simp [go_sem], by simp [go_sem], by simp [go_sem], by simp [go_sem], by simp [go_sem], by simp [go_sem], by simp [go_sem], by simp [go_sem], by simp [go_sem], by simp [go_sem]⟩, ((((Below.refl _ w).alloc (Nat.le_refl _) _).alloc (by simp) _).alloc (by simp; omega) _).alloc (by simp; omega) _⟩

/-- Does the take stay open? -/
def isOpen (s : Sv) (C : List (Int × Int × Int)) (T : List (Int × Int)) (R : List Nat) (rel : Nat) (second : Int) (k : Nat) : Bool :=
  decide (R.getD k 0 = rel) && (decide ((T.getD k (0, 0)).1 < second) && decide (second < latestM s C T k rel))

/-- The takes that stay open. -/
def openM (s : Sv) (C : List (Int × Int × Int)) (T : List (Int × Int)) (R : List Nat) (rel : Nat) (second : Int) (n : Nat) : List Nat := (List.range n).filter (isOpen s C T R rel second)

theorem openM_next (s : Sv) (C : List (Int × Int × Int)) (T : List (Int × Int)) (R : List Nat) (rel : Nat) (second : Int) (k : Nat) : openM s C T R rel second (k + 1) = openM s C T R rel second k ++ if isOpen s C T R rel second k then [k] else [] := by
  unfold openM
  rw [List.range_succ, List.filter_append]
  cases h : isOpen s C T R rel second k <;> simp [h]

theorem openM_le (s : Sv) (C : List (Int × Int × Int)) (T : List (Int × Int)) (R : List Nat) (rel : Nat) (second : Int) (k : Nat) : (openM s C T R rel second k).length ≤ k := by
  unfold openM
  have := List.length_filter_le (isOpen s C T R rel second) (List.range k)
  simpa using this

set_option maxRecDepth 100000 in
set_option maxHeartbeats 4000000 in
theorem open_any (len long short due delay second : Int) (pa ca ta a : Option Addr) (pn pc cn cc tn tc cap rel : Nat) (C : List (Int × Int × Int)) (T : List (Int × Int)) (R : List Nat) (w : World)
    (hs : SvOk ⟨len, long, short, due, delay, pa, ca, ta, pn, pc, cn, cc, tn, tc⟩ C T w) (hR : R.length = tn) (hI : Ints w a (R.map fun r : Nat => (r : Int))) (hr : rel < cn) :
    Calls Try.prog 68 #[.agg #[.int .i64 len, .slice pa pn pc, .int .i64 long, .int .i64 short, .slice ca cn cc, .int .i64 due, .int .i64 delay, .slice ta tn tc], .slice a tn cap, .int .i64 (rel : Int), .int .i64 second] w fun e w' => ∃ va vn vc, e = .returned (.slice va vn vc) ∧ (openM ⟨len, long, short, due, delay, pa, ca, ta, pn, pc, cn, cc, tn, tc⟩ C T R rel second tn).length = vn ∧
      Ints w' va ((openM ⟨len, long, short, due, delay, pa, ca, ta, pn, pc, cn, cc, tn, tc⟩ C T R rel second tn).map fun r : Nat => (r : Int)) ∧ Below w.heap.size w w' := by
  have h40 := hs.t40
  have h5 := hs.c5
  simp only at h40 h5
  have HS := hid hs
  have HR := hid hR
  have HTN : Hid (T.length = tn) := hid hs.tn
  have hST := hs.takes
  simp only at hST
  obtain ⟨i3, hi3, hi3a, hi3b, hi3c⟩ := info_parts Try.info3
  obtain ⟨O, hO⟩ : ∃ O, openM ⟨len, long, short, due, delay, pa, ca, ta, pn, pc, cn, cc, tn, tc⟩ C T R rel second = O := ⟨_, rfl⟩
  rw [hO]
  have HO0 : Hid (O 0 = []) := hid (by rw [← hO]; rfl)
  have HON : Hid (∀ k, O (k + 1) = O k ++ if isOpen ⟨len, long, short, due, delay, pa, ca, ta, pn, pc, cn, cc, tn, tc⟩ C T R rel second k then [k] else []) := hid (fun k => by rw [← hO]; exact openM_next ..)
  have HOL : Hid (∀ k, (O k).length ≤ k) := hid (fun k => by rw [← hO]; exact openM_le ..)
  clear hs hR hO
  go_enter Try.func68, Try.ntmps68
  go_wp2_with fail
  obtain ⟨W0, hW0⟩ : ∃ W, W = w.alloc (.cells #[.int .i64 len, .slice pa pn pc, .int .i64 long, .int .i64 short, .slice ca cn cc, .int .i64 due, .int .i64 delay, .slice ta tn tc] 106) := ⟨_, rfl⟩
  have hB0 : Below w.heap.size w W0 := by rw [hW0]; exact (Below.refl _ w).alloc (Nat.le_refl _) _
  have zW : W0.heap.size = w.heap.size + 1 := by rw [hW0]; simp
  have x0 : W0.cell? ⟨w.heap.size, 0, none⟩ = some (.int .i64 len) := by rw [hW0]; simp [go_sem]
  have x1 : W0.cell? ⟨w.heap.size, 1, none⟩ = some (.slice pa pn pc) := by rw [hW0]; simp [go_sem]
  have x2 : W0.cell? ⟨w.heap.size, 2, none⟩ = some (.int .i64 long) := by rw [hW0]; simp [go_sem]
  have x3 : W0.cell? ⟨w.heap.size, 3, none⟩ = some (.int .i64 short) := by rw [hW0]; simp [go_sem]
  have x4 : W0.cell? ⟨w.heap.size, 4, none⟩ = some (.slice ca cn cc) := by rw [hW0]; simp [go_sem]
  have x5 : W0.cell? ⟨w.heap.size, 5, none⟩ = some (.int .i64 due) := by rw [hW0]; simp [go_sem]
  have x6 : W0.cell? ⟨w.heap.size, 6, none⟩ = some (.int .i64 delay) := by rw [hW0]; simp [go_sem]
  have x7 : W0.cell? ⟨w.heap.size, 7, none⟩ = some (.slice ta tn tc) := by rw [hW0]; simp [go_sem]
  rw [← hW0]
  clear hW0
  go_loopw [9, 15] (fun v i wr => ∃ k : Nat, k ≤ tn ∧ i = .int .i64 k ∧ wr.ownsRow (w.heap.size + 1) 3 1 v (O k).length (natVs (O k)) ∧ Below (w.heap.size + 1) W0 wr) (fun _ i _ => tn - (intOf i).toNat)
  case atStart => exact ⟨0, Nat.zero_le _, rfl, by rw [HO0.out]; exact World.ownsRow_nil _ _ _ _, Below.refl _ _⟩
  case round =>
    obtain ⟨k, hk, rfl, hown, hB⟩ := hrel
    have hzr := hB.size
    have hBw := hB0.trans (hB.mono (by omega))
    by_cases hlt : k < tn
    · obtain ⟨bt, ot, era, e1, e2⟩ := hST k (by rw [HTN.out]; exact hlt)
      obtain ⟨ba, off, eaa, e3⟩ := hI k (by rw [List.length_map, HR.out]; exact hlt)
      have hg : (R.map fun r : Nat => (r : Int)).getD k 0 = ((R.getD k 0 : Nat) : Int) := by
        have : k < R.length := by rw [HR.out]; exact hlt
        simp [List.getD_eq_getElem?_getD, List.getElem?_map, List.getElem?_eq_getElem this]
      rw [hg] at e3
      have sOk := HS.out.grown hBw
      have hLB := latestM_bd sOk (k := k) (r := rel) hlt hr
      have hlat := fun W (h : Below wr.heap.size wr W) => latest_any _ C T k rel W (sOk.grown h) hlt hr
      have HN : Hid (O (k + 1) = O k ++ if (decide (R.getD k 0 = rel) && (decide ((T.getD k (0, 0)).1 < second) && decide (second < latestM ⟨len, long, short, due, delay, pa, ca, ta, pn, pc, cn, cc, tn, tc⟩ C T k rel))) then [k] else []) := hid (HON.out k)
      obtain ⟨x, hx⟩ : ∃ x, R.getD k 0 = x := ⟨_, rfl⟩
      obtain ⟨y, hy⟩ : ∃ y, T.getD k (0, 0) = y := ⟨_, rfl⟩
      obtain ⟨l, hl⟩ : ∃ l, latestM ⟨len, long, short, due, delay, pa, ca, ta, pn, pc, cn, cc, tn, tc⟩ C T k rel = l := ⟨_, rfl⟩
      rw [hx] at e3 HN
      rw [hy] at e1 e2 HN
      rw [hl] at HN hLB hlat
      clear hx hy hl hg
      obtain ⟨f, to⟩ := y
      simp only at e1 e2 HN
      subst era
      subst eaa
      replace e1 := cell_grown hBw e1
      replace e2 := cell_grown hBw e2
      replace e3 := cell_grown hBw e3
      have gb := lt_of_cell e1
      have gb2 := lt_of_cell e3
      have hkk : (k : Int) < tn := by omega
      have gw : w.heap.size < wr.heap.size := by omega
      have hol := HOL.out k
      have y0 := (hB.cell (p := ⟨w.heap.size, 0, none⟩) (by simp)).trans x0
      have y1 := (hB.cell (p := ⟨w.heap.size, 1, none⟩) (by simp)).trans x1
      have y2 := (hB.cell (p := ⟨w.heap.size, 2, none⟩) (by simp)).trans x2
      have y3 := (hB.cell (p := ⟨w.heap.size, 3, none⟩) (by simp)).trans x3
      have y4 := (hB.cell (p := ⟨w.heap.size, 4, none⟩) (by simp)).trans x4
      have y5 := (hB.cell (p := ⟨w.heap.size, 5, none⟩) (by simp)).trans x5
      have y6 := (hB.cell (p := ⟨w.heap.size, 6, none⟩) (by simp)).trans x6
      have y7 := (hB.cell (p := ⟨w.heap.size, 7, none⟩) (by simp)).trans x7
      obtain ⟨Wt, hWt⟩ : ∃ W, W = wr.alloc (.cells #[.int .i64 f, .int .i64 to] 82) := ⟨_, rfl⟩
      have hBt : Below wr.heap.size wr Wt := by rw [hWt]; exact (Below.refl _ _).alloc (Nat.le_refl _) _
      have zt : Wt.heap.size = wr.heap.size + 1 := by rw [hWt]; simp
      have ownt := ownsRow_below hown hBt
      have t0 : Wt.cell? ⟨wr.heap.size, 0, none⟩ = some (.int .i64 f) := by rw [hWt]; simp [go_sem]
      have hBk : Below (w.heap.size + 1) W0 Wt := hB.trans (hBt.mono (by omega))
      by_cases h1 : x = rel
      · by_cases h2 : f < second
        · by_cases h3 : second < l
          · have HNX : Hid (O (k + 1) = O k ++ [k]) := hid (by rw [HN.out]; simp [h1, h2, h3])
            subst h1
            clear HN
            go_wp2_with fail
            rw [← hWt]
            refine (hlat Wt hBt).mono ?_
            rintro e w2 ⟨rfl, hb2⟩
            have own2 := ownsRow_below ownt hb2
            have hB2 : Below (w.heap.size + 1) W0 w2 := hBk.trans (hb2.mono (by omega))
            have hz2 := hB2.size
            clear hWt hBt ownt t0 hBk hlat
            go_wp2_with (at_builtin; refine wpList_append_own _ rfl _ _ 53 rfl (w.heap.size + 1) 3 i3 (.int .i64 0) 1 8 Try.underlying53 hi3 hi3a hi3b hi3c rfl (by decide) _ (O k).length _ rfl (own2.alloc _) ⟨w2.heap.size, 0, none⟩ 1 1 [.int .i64 (k : Int)] rfl rfl (cell_one_new _ _ _ _ rfl) (fun x hx => by simp at hx; subst hx; rfl) (by unfold maxLen; omega) (by omega) (by simp; omega) ?_; intro v' w3 hown' hgrow hnil; have hb3 := below_of_grown hB2 own2 hgrow (by omega); clear hgrow hnil)
            go_roundw
            case rel => exact ⟨k + 1, by omega, by go_num, by rw [HNX.out]; exact (by simpa [natVs] using hown'), hb3⟩
            case measure => simp [intOf]; omega
          · have HNX : Hid (O (k + 1) = O k) := hid (by rw [HN.out]; simp [h3])
            subst h1
            clear HN
            have h3' : decide (second < l) = false := by simpa using h3
            go_wp2_with fail
            rw [← hWt]
            refine (hlat Wt hBt).mono ?_
            rintro e w2 ⟨rfl, hb2⟩
            have own2 := ownsRow_below ownt hb2
            have hB2 : Below (w.heap.size + 1) W0 w2 := hBk.trans (hb2.mono (by omega))
            have hz2 := hB2.size
            clear hWt hBt ownt t0 hBk hlat
            go_wp2_with fail
            go_roundw
            case rel => exact ⟨k + 1, by omega, by go_num, by rw [HNX.out]; exact own2, hB2⟩
            case measure => simp [intOf]; omega
        · have HNX : Hid (O (k + 1) = O k) := hid (by rw [HN.out]; simp [h2])
          subst h1
          have h2' : decide (f < second) = false := by simpa using h2
          clear HN
          go_wp2_with fail
          rw [← hWt]
          go_roundw
          case rel => exact ⟨k + 1, by omega, by go_num, by rw [HNX.out]; exact ownt, hBk⟩
          case measure => simp [intOf]; omega
      · have HNX : Hid (O (k + 1) = O k) := hid (by rw [HN.out]; simp [h1])
        have h1' : ¬ ((x : Int) = (rel : Int)) := by omega
        clear HN
        go_wp2_with fail
        rw [← hWt]
        go_roundw
        case rel => exact ⟨k + 1, by omega, by go_num, by rw [HNX.out]; exact ownt, hBk⟩
        case measure => simp [intOf]; omega
    · have hkn : k = tn := by omega
      subst hkn
      obtain ⟨va, vc, hv⟩ := owns_shape hown
      subst hv
      have HI := hid (ints_of_owns hown)
      clear hown
      go_wp2
      go_ret
      exact ⟨va, _, vc, rfl, rfl, HI.out, hBw⟩

end Go.Proofs.Ytgapbaelifcifaa
