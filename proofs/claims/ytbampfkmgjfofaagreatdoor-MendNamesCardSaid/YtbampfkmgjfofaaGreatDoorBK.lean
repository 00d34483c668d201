/- Mend, the laws: whether two lists of errors, and of marks, are the same. Mend, the laws: the chapter's lexicon, report and requests. -/
import Derived.Test.YtbampfkmgjfofaaGreatDoorBI
namespace Go.Proofs.YtbampfkmgjfofaaGreatDoor
open Go.RowKit

/-- Whole numbers, one by one. -/
def IntsAt (w : World) (a : Option Addr) (n : Nat) (f : Nat → Int) : Prop := ∀ i, i < n → ∃ b off, a = some ⟨b, off, none⟩ ∧ w.cell? ⟨b, off + i, none⟩ = some (.int .i64 (f i))

theorem IntsAt.grown {w w' : World} {a : Option Addr} {n : Nat} {f : Nat → Int} (h : IntsAt w a n f) (hb : Below w.heap.size w w') : IntsAt w' a n f := fun i hi =>
  let ⟨b, off, ha, hc⟩ := h i hi
  ⟨b, off, ha, cell_grown hb hc⟩

theorem IntsAt.of_row {w : World} {b n : Nat} {t : TypeId} {f : Nat → Int} (h : w.rowIs b t n (fun j => .int .i64 (f j))) : IntsAt w (some ⟨b, 0, none⟩) n f := fun i hi =>
  ⟨b, 0, rfl, by rw [Nat.zero_add]; exact h.cell hi⟩

set_option maxRecDepth 100000 in
set_option maxHeartbeats 1000000 in
theorem errors_any (f g : Nat → Int) (n m nc mc : Nat) (aa ba : Option Addr) (w : World) (hn : n ≤ 1000) (hA : IntsAt w aa n f) (hB : IntsAt w ba m g) :
    Calls Tryz.prog 43 #[.slice aa n nc, .slice ba m mc] w fun e w' => e = .returned (.bool (decide (n = m) && allN n fun i => decide (f i = g i))) ∧ Below w.heap.size w w' := by
  obtain ⟨z, hz⟩ : ∃ z, (decide (n = m) && allN n fun i => decide (f i = g i)) = z := ⟨_, rfl⟩
  rw [hz]
  have HZ := hid hz
  clear hz
  go_enter Tryz.func43, Tryz.ntmps43
  by_cases hnm : n = m
  · subst hnm
    have HZ2 : Hid ((allN n fun i => decide (f i = g i)) = z) := hid (by rw [← HZ.out]; simp)
    clear HZ
    go_wp2_with fail
    go_loopw [5] (fun i wr => ∃ k : Nat, k ≤ n ∧ i = .int .i64 k ∧ Hid (∀ j, j < k → f j = g j) ∧ Below w.heap.size w wr) (fun i _ => n - (intOf i).toNat)
    case atStart => exact ⟨0, Nat.zero_le _, rfl, hid (fun j h => by omega), Below.refl _ _⟩
    case round =>
      obtain ⟨k, hk, rfl, HF, hb⟩ := hrel
      by_cases hlt : k < n
      · obtain ⟨ab, off, rfl, e0⟩ := hA k hlt
        obtain ⟨bb, boff, rfl, d0⟩ := hB k hlt
        replace e0 := cell_grown hb e0
        replace d0 := cell_grown hb d0
        have ga := lt_of_cell e0
        have gb := lt_of_cell d0
        obtain ⟨x, hx⟩ : ∃ x, f k = x := ⟨_, rfl⟩
        obtain ⟨y, hy⟩ : ∃ y, g k = y := ⟨_, rfl⟩
        rw [hx] at e0
        rw [hy] at d0
        have HX := hid hx
        have HY := hid hy
        clear hx hy
        by_cases hxy : x = y
        · have h1 : (x != y) = false := by simpa using hxy
          have HE := hid hxy
          clear hxy
          go_wp2_with fail
          go_quiet (fail)
          go_wp2
          go_roundw
          case rel => exact ⟨k + 1, by omega, by go_num, hid (fun j hj => by
            by_cases e : j = k
            · subst e; rw [HX.out, HY.out]; exact HE.out
            · exact HF.out j (by omega)), below_drewN hb _⟩
          case measure => simp [intOf]; omega
        · have h1 : (x != y) = true := by simpa using hxy
          have hzf : z = false := by
            rw [← HZ2.out]
            cases hall : allN n fun i => decide (f i = g i)
            · rfl
            · have := (allN_of n _).1 hall k hlt
              rw [HX.out, HY.out] at this
              exact absurd (by simpa using this) hxy
          clear hxy
          go_wp2_with fail
          go_quiet (fail)
          go_wp2
          go_ret
          exact ⟨by rw [hzf]; rfl, below_drewN hb _⟩
      · have hkn : k = n := by omega
        subst hkn
        have hzt : z = true := by rw [← HZ2.out]; exact (allN_of k _).2 (fun i hi => by rw [HF.out i hi]; simp)
        clear HF HZ2 hlt
        go_wp2
        go_ret
        exact ⟨by rw [hzt]; rfl, hb⟩
  · have hzf : z = false := by rw [← HZ.out]; simp [hnm]
    have h1 : ((n : Int) != (m : Int)) = true := by simp; omega
    clear HZ hnm
    go_wp2
    go_ret
    exact ⟨by rw [hzf]; rfl, Below.refl _ _⟩

theorem list_ext_getD {A B : List (Int × Int)} (h1 : A.length = B.length) (h2 : ∀ j, j < A.length → A.getD j (0, 0) = B.getD j (0, 0)) : A = B := by
  apply List.ext_getElem h1
  intro i hi hj
  have := h2 i hi
  rwa [List.getD_eq_getElem?_getD, List.getD_eq_getElem?_getD, List.getElem?_eq_getElem hi, List.getElem?_eq_getElem hj] at this

set_option maxRecDepth 100000 in
set_option maxHeartbeats 2000000 in
theorem marks_any (A B : List (Int × Int)) (n m nc mc : Nat) (aa ba : Option Addr) (w : World) (hn : n ≤ 1000) (hAl : A.length = n) (hBl : B.length = m) (hA : Marks w aa A) (hB : Marks w ba B) :
    Calls Tryz.prog 24 #[.slice aa n nc, .slice ba m mc] w fun e w' => e = .returned (.bool (decide (A = B))) ∧ Below w.heap.size w w' := by
  obtain ⟨z, hz⟩ : ∃ z, (decide (A = B)) = z := ⟨_, rfl⟩
  rw [hz]
  have HZ := hid hz
  have HA := hid hAl
  have HB := hid hBl
  clear hz hAl hBl
  go_enter Tryz.func24, Tryz.ntmps24
  by_cases hnm : n = m
  · subst hnm
    go_wp2_with fail
    go_loopw [5] (fun i wr => ∃ k : Nat, k ≤ n ∧ i = .int .i64 k ∧ Hid (∀ j, j < k → A.getD j (0, 0) = B.getD j (0, 0)) ∧ Below w.heap.size w wr) (fun i _ => n - (intOf i).toNat)
    case atStart => exact ⟨0, Nat.zero_le _, rfl, hid (fun j h => by omega), Below.refl _ _⟩
    case round =>
      obtain ⟨k, hk, rfl, HF, hb⟩ := hrel
      by_cases hlt : k < n
      · obtain ⟨ab, off, rfl, e0, e1⟩ := hA k (by rw [HA.out]; exact hlt)
        obtain ⟨bb, boff, rfl, d0, d1⟩ := hB k (by rw [HB.out]; exact hlt)
        replace e0 := cell_grown hb e0
        replace e1 := cell_grown hb e1
        replace d0 := cell_grown hb d0
        replace d1 := cell_grown hb d1
        have ga := lt_of_cell e0
        have gb := lt_of_cell d0
        obtain ⟨x, hx⟩ : ∃ x, A.getD k (0, 0) = x := ⟨_, rfl⟩
        obtain ⟨y, hy⟩ : ∃ y, B.getD k (0, 0) = y := ⟨_, rfl⟩
        rw [hx] at e0 e1
        rw [hy] at d0 d1
        have HX := hid hx
        have HY := hid hy
        clear hx hy
        obtain ⟨x1, x2⟩ := x
        obtain ⟨y1, y2⟩ := y
        simp only at e0 e1 d0 d1
        have hno : ¬ ((x1, x2) : Int × Int) = (y1, y2) → z = false := fun h => by
          rw [← HZ.out, decide_eq_false_iff_not]
          intro e
          apply h
          rw [← HX.out, ← HY.out, e]
        have HNO := hid hno
        clear hno
        by_cases h1 : x1 = y1
        · have b1 : (x1 != y1) = false := by simpa using h1
          by_cases h2 : x2 = y2
          · have b2 : (x2 != y2) = false := by simpa using h2
            have HE : Hid (((x1, x2) : Int × Int) = (y1, y2)) := hid (by rw [h1, h2])
            clear h1 h2
            go_wp2_with fail
            go_quiet (fail)
            go_wp2
            go_roundw
            case rel => exact ⟨k + 1, by omega, by go_num, hid (fun j hj => by
              by_cases e : j = k
              · subst e; rw [HX.out, HY.out]; exact HE.out
              · exact HF.out j (by omega)), below_drewN hb _⟩
            case measure => simp [intOf]; omega
          · have b2 : (x2 != y2) = true := by simpa using h2
            have hzf : z = false := HNO.out (fun e => h2 (by injection e))
            clear h1 h2
            go_wp2_with fail
            go_quiet (fail)
            go_wp2
            go_ret
            exact ⟨by rw [hzf]; rfl, below_drewN hb _⟩
        · have b1 : (x1 != y1) = true := by simpa using h1
          have hzf : z = false := HNO.out (fun e => h1 (by injection e))
          clear h1
          go_wp2_with fail
          go_quiet (fail)
          go_wp2
          go_ret
          exact ⟨by rw [hzf]; rfl, below_drewN hb _⟩
      · have hkn : k = n := by omega
        subst hkn
        have hzt : z = true := by
          rw [← HZ.out, decide_eq_true_eq]
          exact list_ext_getD (by rw [HA.out, HB.out]) (fun j hj => HF.out j (by rw [← HA.out]; exact hj))
        clear HF hlt
        go_wp2
        go_ret
        exact ⟨by rw [hzt]; rfl, hb⟩
  · have hzf : z = false := by
      rw [← HZ.out, decide_eq_false_iff_not]
      intro e
      exact hnm (by rw [← HA.out, ← HB.out, e])
    have h1 : ((n : Int) != (m : Int)) = true := by simp; omega
    clear HZ hnm
    go_wp2
    go_ret
    exact ⟨by rw [hzf]; rfl, Below.refl _ _⟩

end Go.Proofs.YtbampfkmgjfofaaGreatDoor

namespace Go.Proofs.YtbampfkmgjfofaaGreatDoor
open Go.RowKit

def tTen : Tx := ⟨#[116, 101, 110]⟩
def tMillion : Tx := ⟨#[109, 105, 108, 108, 105, 111, 110]⟩
def tSmith : Tx := ⟨#[83, 109, 105, 116, 104]⟩
def tSmyth : Tx := ⟨#[83, 109, 121, 116, 104]⟩
def tJones : Tx := ⟨#[74, 111, 110, 101, 115]⟩
def tNot : Tx := ⟨#[110, 111, 116]⟩
def tNever : Tx := ⟨#[110, 101, 118, 101, 114]⟩
def tPaid : Tx := ⟨#[112, 97, 105, 100]⟩
def tYes : Tx := ⟨#[121, 101, 115]⟩
def tHas : Tx := ⟨#[104, 97, 115]⟩
def t12 : Tx := ⟨#[49, 50]⟩
def t10 : Tx := ⟨#[49, 48]⟩
def tNo : Tx := ⟨#[110, 111]⟩

/-- The chapter's lexicon. -/
def lex0 : Lex := ⟨[(tTen, 10), (tMillion, 1000000)], [[tSmith, tSmyth], [tJones]], [tNot, tNever]⟩
/-- Its swap. -/
def swaps0 : List (Int × Int × Int) := [(1, 10, 12)]
/-- The chapter's report. -/
def rep0 : List (Tx × Int) := [(tSmith, 1), (tPaid, 1), (tTen, 1), (tYes, 2)]
/-- The chapter's requests. -/
def reqs0 : List Req := [⟨1, 120, 1, 1, [tHas, tPaid]⟩, ⟨1, 110, 2, 1, [t12]⟩, ⟨2, 130, 2, 1, [t10]⟩, ⟨2, 161, 3, 1, [tNo]⟩, ⟨2, 160, 3, 1, [tNot]⟩]

/-- What words returns, with its memory. -/
def WordsPost (w : World) (e : Ending) (w' : World) : Prop :=
  ∃ a1 a2 a3 sa, e = .returned (.tuple #[.agg #[.slice a1 2 2, .slice a2 2 2, .slice a3 2 2], .slice sa 1 1]) ∧ LexAt w' a1 a2 a3 lex0 ∧ SwapsAt w' sa swaps0 ∧ Below w.heap.size w w'

theorem strs_one {w : World} {b : Nat} {x : Tx} (h : w.cell? ⟨b, 0, none⟩ = some (.string x)) : Strs w (some ⟨b, 0, none⟩) [x] := by
  intro i hi
  obtain rfl : i = 0 := by simpa using hi
  exact ⟨b, 0, rfl, h⟩

theorem strs_two {w : World} {b : Nat} {x y : Tx} (h : w.cell? ⟨b, 0, none⟩ = some (.string x)) (k : w.cell? ⟨b, 1, none⟩ = some (.string y)) : Strs w (some ⟨b, 0, none⟩) [x, y] := by
  intro i hi
  rcases (by simp at hi; omega : i = 0 ∨ i = 1) with rfl | rfl
  · exact ⟨b, 0, rfl, h⟩
  · exact ⟨b, 0, rfl, k⟩

/-- The memory behind words. -/
def wordsW (w : World) : World :=
  (((((((w.alloc (.cells #[.slice (some ⟨w.heap.size + 1, 0, none⟩) 2 2, .slice (some ⟨w.heap.size + 1 + 1 + 1 + 1, 0, none⟩) 2 2, .slice (some ⟨w.heap.size + 1 + 1 + 1 + 1 + 1, 0, none⟩) 2 2] 34)).alloc (.cells #[.string tTen, .int .i64 10, .string tMillion, .int .i64 1000000] 119)).alloc (.cells #[.string tSmith, .string tSmyth] 9)).alloc (.cells #[.string tJones] 9)).alloc (.cells #[.slice (some ⟨w.heap.size + 1 + 1, 0, none⟩) 2 2, .slice (some ⟨w.heap.size + 1 + 1 + 1, 0, none⟩) 1 1] 24)).alloc (.cells #[.string tNot, .string tNever] 9)).alloc (.cells #[.int .u8 1, .int .i64 10, .int .i64 12] 89))

theorem wordsW_below (w : World) : Below w.heap.size w (wordsW w) := by
  unfold wordsW
  exact ((((((((Below.refl _ w).alloc (Nat.le_refl _) _).alloc (by simp) _).alloc (by simp; omega) _).alloc (by simp; omega) _).alloc (by simp; omega) _).alloc (by simp; omega) _).alloc (by simp; omega) _)

theorem wordsW_size (w : World) : (wordsW w).heap.size = w.heap.size + 7 := by
  unfold wordsW
  simp

theorem wordsW_lex (w : World) : LexAt (wordsW w) (some ⟨w.heap.size + 1, 0, none⟩) (some ⟨w.heap.size + 1 + 1 + 1 + 1, 0, none⟩) (some ⟨w.heap.size + 1 + 1 + 1 + 1 + 1, 0, none⟩) lex0 := by
  have c0 : (wordsW w).cell? ⟨w.heap.size + 1, 0, none⟩ = some (.string tTen) := by unfold wordsW; simp [go_sem]
  have c1 : (wordsW w).cell? ⟨w.heap.size + 1, 1, none⟩ = some (.int .i64 10) := by unfold wordsW; simp [go_sem]
  have c2 : (wordsW w).cell? ⟨w.heap.size + 1, 2, none⟩ = some (.string tMillion) := by unfold wordsW; simp [go_sem]
  have c3 : (wordsW w).cell? ⟨w.heap.size + 1, 3, none⟩ = some (.int .i64 1000000) := by unfold wordsW; simp [go_sem]
  have d0 : (wordsW w).cell? ⟨w.heap.size + 1 + 1, 0, none⟩ = some (.string tSmith) := by unfold wordsW; simp [go_sem]
  have d1 : (wordsW w).cell? ⟨w.heap.size + 1 + 1, 1, none⟩ = some (.string tSmyth) := by unfold wordsW; simp [go_sem]
  have d2 : (wordsW w).cell? ⟨w.heap.size + 1 + 1 + 1, 0, none⟩ = some (.string tJones) := by unfold wordsW; simp [go_sem]
  have e0 : (wordsW w).cell? ⟨w.heap.size + 1 + 1 + 1 + 1, 0, none⟩ = some (.slice (some ⟨w.heap.size + 1 + 1, 0, none⟩) 2 2) := by unfold wordsW; simp [go_sem]
  have e1 : (wordsW w).cell? ⟨w.heap.size + 1 + 1 + 1 + 1, 1, none⟩ = some (.slice (some ⟨w.heap.size + 1 + 1 + 1, 0, none⟩) 1 1) := by unfold wordsW; simp [go_sem]
  have f0 : (wordsW w).cell? ⟨w.heap.size + 1 + 1 + 1 + 1 + 1, 0, none⟩ = some (.string tNot) := by unfold wordsW; simp [go_sem]
  have f1 : (wordsW w).cell? ⟨w.heap.size + 1 + 1 + 1 + 1 + 1, 1, none⟩ = some (.string tNever) := by unfold wordsW; simp [go_sem]
  refine ⟨fun i hi => ?_, fun i hi => ?_, strs_two f0 f1, by decide, by decide, by decide⟩
  · rcases (by simp [lex0] at hi; omega : i = 0 ∨ i = 1) with rfl | rfl
    · exact ⟨_, 0, rfl, c0, c1⟩
    · exact ⟨_, 0, rfl, c2, c3⟩
  · rcases (by simp [lex0] at hi; omega : i = 0 ∨ i = 1) with rfl | rfl
    · exact ⟨_, 0, _, _, rfl, e0, by decide, strs_two d0 d1⟩
    · exact ⟨_, 0, _, _, rfl, e1, by decide, strs_one d2⟩

theorem wordsW_swaps (w : World) : SwapsAt (wordsW w) (some ⟨w.heap.size + 1 + 1 + 1 + 1 + 1 + 1, 0, none⟩) swaps0 := by
  have c0 : (wordsW w).cell? ⟨w.heap.size + 1 + 1 + 1 + 1 + 1 + 1, 0, none⟩ = some (.int .u8 1) := by unfold wordsW; simp [go_sem]
  have c1 : (wordsW w).cell? ⟨w.heap.size + 1 + 1 + 1 + 1 + 1 + 1, 1, none⟩ = some (.int .i64 10) := by unfold wordsW; simp [go_sem]
  have c2 : (wordsW w).cell? ⟨w.heap.size + 1 + 1 + 1 + 1 + 1 + 1, 2, none⟩ = some (.int .i64 12) := by unfold wordsW; simp [go_sem]
  intro i hi
  obtain rfl : i = 0 := by simp [swaps0] at hi; omega
  exact ⟨_, 0, rfl, c0, c1, c2⟩

set_option maxRecDepth 100000 in
set_option maxHeartbeats 4000000 in
theorem words_any (w : World) : Calls Tryz.prog 41 #[] w (WordsPost w) := by
  go_enter Tryz.func41, Tryz.ntmps41
  go_wp2
  refine bodyPost_ret (v := .tuple #[.agg #[.slice (some ⟨w.heap.size + 1, 0, none⟩) 2 2, .slice (some ⟨w.heap.size + 1 + 1 + 1 + 1, 0, none⟩) 2 2, .slice (some ⟨w.heap.size + 1 + 1 + 1 + 1 + 1, 0, none⟩) 2 2], .slice (some ⟨w.heap.size + 1 + 1 + 1 + 1 + 1 + 1, 0, none⟩) 1 1]) (by simp [results, Tryz.f41, go_sem]) rfl ?_
  exact ⟨_, _, _, _, rfl, wordsW_lex w, wordsW_swaps w, wordsW_below w⟩

/-- What asked returns, with its memory. -/
def AskedPost (w : World) (e : Ending) (w' : World) : Prop :=
  ∃ wa ra, e = .returned (.tuple #[.agg #[.slice wa 4 4, .int .i64 100, .int .i64 60], .slice ra 5 5]) ∧ Nums w' wa rep0 ∧ ReqsAt w' ra reqs0 ∧ Below w.heap.size w w'

/-- The memory behind asked. -/
def askedW (w : World) : World :=
  ((((((((w.alloc (.cells #[.slice (some ⟨w.heap.size + 1, 0, none⟩) 4 4, .int .i64 100, .int .i64 60] 62)).alloc (.cells #[.string tSmith, .int .i64 1, .string tPaid, .int .i64 1, .string tTen, .int .i64 1, .string tYes, .int .i64 2] 104)).alloc (.cells #[.string tHas, .string tPaid] 9)).alloc (.cells #[.string t12] 9)).alloc (.cells #[.string t10] 9)).alloc (.cells #[.string tNo] 9)).alloc (.cells #[.string tNot] 9)).alloc (.cells #[.int .i64 1, .int .i64 120, .int .i64 1, .int .i64 1, .slice (some ⟨w.heap.size + 1 + 1, 0, none⟩) 2 2, .int .i64 1, .int .i64 110, .int .i64 2, .int .i64 1, .slice (some ⟨w.heap.size + 1 + 1 + 1, 0, none⟩) 1 1, .int .i64 2, .int .i64 130, .int .i64 2, .int .i64 1, .slice (some ⟨w.heap.size + 1 + 1 + 1 + 1, 0, none⟩) 1 1, .int .i64 2, .int .i64 161, .int .i64 3, .int .i64 1, .slice (some ⟨w.heap.size + 1 + 1 + 1 + 1 + 1, 0, none⟩) 1 1, .int .i64 2, .int .i64 160, .int .i64 3, .int .i64 1, .slice (some ⟨w.heap.size + 1 + 1 + 1 + 1 + 1 + 1, 0, none⟩) 1 1] 87))

theorem askedW_below (w : World) : Below w.heap.size w (askedW w) := by
  unfold askedW
  exact (((((((((Below.refl _ w).alloc (Nat.le_refl _) _).alloc (by simp) _).alloc (by simp; omega) _).alloc (by simp; omega) _).alloc (by simp; omega) _).alloc (by simp; omega) _).alloc (by simp; omega) _).alloc (by simp; omega) _)

theorem askedW_words (w : World) : Nums (askedW w) (some ⟨w.heap.size + 1, 0, none⟩) rep0 := by
  have c0 : (askedW w).cell? ⟨w.heap.size + 1, 0, none⟩ = some (.string tSmith) := by unfold askedW; simp [go_sem]
  have c1 : (askedW w).cell? ⟨w.heap.size + 1, 1, none⟩ = some (.int .i64 1) := by unfold askedW; simp [go_sem]
  have c2 : (askedW w).cell? ⟨w.heap.size + 1, 2, none⟩ = some (.string tPaid) := by unfold askedW; simp [go_sem]
  have c3 : (askedW w).cell? ⟨w.heap.size + 1, 3, none⟩ = some (.int .i64 1) := by unfold askedW; simp [go_sem]
  have c4 : (askedW w).cell? ⟨w.heap.size + 1, 4, none⟩ = some (.string tTen) := by unfold askedW; simp [go_sem]
  have c5 : (askedW w).cell? ⟨w.heap.size + 1, 5, none⟩ = some (.int .i64 1) := by unfold askedW; simp [go_sem]
  have c6 : (askedW w).cell? ⟨w.heap.size + 1, 6, none⟩ = some (.string tYes) := by unfold askedW; simp [go_sem]
  have c7 : (askedW w).cell? ⟨w.heap.size + 1, 7, none⟩ = some (.int .i64 2) := by unfold askedW; simp [go_sem]
  intro i hi
  rcases (by simp [rep0] at hi; omega : i = 0 ∨ i = 1 ∨ i = 2 ∨ i = 3) with rfl | rfl | rfl | rfl
  · exact ⟨_, 0, rfl, c0, c1⟩
  · exact ⟨_, 0, rfl, c2, c3⟩
  · exact ⟨_, 0, rfl, c4, c5⟩
  · exact ⟨_, 0, rfl, c6, c7⟩

theorem askedW_reqs (w : World) : ReqsAt (askedW w) (some ⟨w.heap.size + 1 + 1 + 1 + 1 + 1 + 1 + 1, 0, none⟩) reqs0 := by
  have p0 : (askedW w).cell? ⟨w.heap.size + 1 + 1, 0, none⟩ = some (.string tHas) := by unfold askedW; simp [go_sem]
  have p1 : (askedW w).cell? ⟨w.heap.size + 1 + 1, 1, none⟩ = some (.string tPaid) := by unfold askedW; simp [go_sem]
  have p3 : (askedW w).cell? ⟨w.heap.size + 1 + 1 + 1, 0, none⟩ = some (.string t12) := by unfold askedW; simp [go_sem]
  have p4 : (askedW w).cell? ⟨w.heap.size + 1 + 1 + 1 + 1, 0, none⟩ = some (.string t10) := by unfold askedW; simp [go_sem]
  have p5 : (askedW w).cell? ⟨w.heap.size + 1 + 1 + 1 + 1 + 1, 0, none⟩ = some (.string tNo) := by unfold askedW; simp [go_sem]
  have p6 : (askedW w).cell? ⟨w.heap.size + 1 + 1 + 1 + 1 + 1 + 1, 0, none⟩ = some (.string tNot) := by unfold askedW; simp [go_sem]
  have c0 : (askedW w).cell? ⟨w.heap.size + 1 + 1 + 1 + 1 + 1 + 1 + 1, 0, none⟩ = some (.int .i64 1) := by unfold askedW; simp [go_sem]
  have c1 : (askedW w).cell? ⟨w.heap.size + 1 + 1 + 1 + 1 + 1 + 1 + 1, 1, none⟩ = some (.int .i64 120) := by unfold askedW; simp [go_sem]
  have c2 : (askedW w).cell? ⟨w.heap.size + 1 + 1 + 1 + 1 + 1 + 1 + 1, 2, none⟩ = some (.int .i64 1) := by unfold askedW; simp [go_sem]
  have c3 : (askedW w).cell? ⟨w.heap.size + 1 + 1 + 1 + 1 + 1 + 1 + 1, 3, none⟩ = some (.int .i64 1) := by unfold askedW; simp [go_sem]
  have c4 : (askedW w).cell? ⟨w.heap.size + 1 + 1 + 1 + 1 + 1 + 1 + 1, 4, none⟩ = some (.slice (some ⟨w.heap.size + 1 + 1, 0, none⟩) 2 2) := by unfold askedW; simp [go_sem]
  have c5 : (askedW w).cell? ⟨w.heap.size + 1 + 1 + 1 + 1 + 1 + 1 + 1, 5, none⟩ = some (.int .i64 1) := by unfold askedW; simp [go_sem]
  have c6 : (askedW w).cell? ⟨w.heap.size + 1 + 1 + 1 + 1 + 1 + 1 + 1, 6, none⟩ = some (.int .i64 110) := by unfold askedW; simp [go_sem]
  have c7 : (askedW w).cell? ⟨w.heap.size + 1 + 1 + 1 + 1 + 1 + 1 + 1, 7, none⟩ = some (.int .i64 2) := by unfold askedW; simp [go_sem]
  have c8 : (askedW w).cell? ⟨w.heap.size + 1 + 1 + 1 + 1 + 1 + 1 + 1, 8, none⟩ = some (.int .i64 1) := by unfold askedW; simp [go_sem]
  have c9 : (askedW w).cell? ⟨w.heap.size + 1 + 1 + 1 + 1 + 1 + 1 + 1, 9, none⟩ = some (.slice (some ⟨w.heap.size + 1 + 1 + 1, 0, none⟩) 1 1) := by unfold askedW; simp [go_sem]
  have c10 : (askedW w).cell? ⟨w.heap.size + 1 + 1 + 1 + 1 + 1 + 1 + 1, 10, none⟩ = some (.int .i64 2) := by unfold askedW; simp [go_sem]
  have c11 : (askedW w).cell? ⟨w.heap.size + 1 + 1 + 1 + 1 + 1 + 1 + 1, 11, none⟩ = some (.int .i64 130) := by unfold askedW; simp [go_sem]
  have c12 : (askedW w).cell? ⟨w.heap.size + 1 + 1 + 1 + 1 + 1 + 1 + 1, 12, none⟩ = some (.int .i64 2) := by unfold askedW; simp [go_sem]
  have c13 : (askedW w).cell? ⟨w.heap.size + 1 + 1 + 1 + 1 + 1 + 1 + 1, 13, none⟩ = some (.int .i64 1) := by unfold askedW; simp [go_sem]
  have c14 : (askedW w).cell? ⟨w.heap.size + 1 + 1 + 1 + 1 + 1 + 1 + 1, 14, none⟩ = some (.slice (some ⟨w.heap.size + 1 + 1 + 1 + 1, 0, none⟩) 1 1) := by unfold askedW; simp [go_sem]
  have c15 : (askedW w).cell? ⟨w.heap.size + 1 + 1 + 1 + 1 + 1 + 1 + 1, 15, none⟩ = some (.int .i64 2) := by unfold askedW; simp [go_sem]
  have c16 : (askedW w).cell? ⟨w.heap.size + 1 + 1 + 1 + 1 + 1 + 1 + 1, 16, none⟩ = some (.int .i64 161) := by unfold askedW; simp [go_sem]
  have c17 : (askedW w).cell? ⟨w.heap.size + 1 + 1 + 1 + 1 + 1 + 1 + 1, 17, none⟩ = some (.int .i64 3) := by unfold askedW; simp [go_sem]
  have c18 : (askedW w).cell? ⟨w.heap.size + 1 + 1 + 1 + 1 + 1 + 1 + 1, 18, none⟩ = some (.int .i64 1) := by unfold askedW; simp [go_sem]
  have c19 : (askedW w).cell? ⟨w.heap.size + 1 + 1 + 1 + 1 + 1 + 1 + 1, 19, none⟩ = some (.slice (some ⟨w.heap.size + 1 + 1 + 1 + 1 + 1, 0, none⟩) 1 1) := by unfold askedW; simp [go_sem]
  have c20 : (askedW w).cell? ⟨w.heap.size + 1 + 1 + 1 + 1 + 1 + 1 + 1, 20, none⟩ = some (.int .i64 2) := by unfold askedW; simp [go_sem]
  have c21 : (askedW w).cell? ⟨w.heap.size + 1 + 1 + 1 + 1 + 1 + 1 + 1, 21, none⟩ = some (.int .i64 160) := by unfold askedW; simp [go_sem]
  have c22 : (askedW w).cell? ⟨w.heap.size + 1 + 1 + 1 + 1 + 1 + 1 + 1, 22, none⟩ = some (.int .i64 3) := by unfold askedW; simp [go_sem]
  have c23 : (askedW w).cell? ⟨w.heap.size + 1 + 1 + 1 + 1 + 1 + 1 + 1, 23, none⟩ = some (.int .i64 1) := by unfold askedW; simp [go_sem]
  have c24 : (askedW w).cell? ⟨w.heap.size + 1 + 1 + 1 + 1 + 1 + 1 + 1, 24, none⟩ = some (.slice (some ⟨w.heap.size + 1 + 1 + 1 + 1 + 1 + 1, 0, none⟩) 1 1) := by unfold askedW; simp [go_sem]
  intro i hi
  rcases (by simp [reqs0] at hi; omega : i = 0 ∨ i = 1 ∨ i = 2 ∨ i = 3 ∨ i = 4) with rfl | rfl | rfl | rfl | rfl
  · exact ⟨_, 0, _, _, rfl, c0, c1, c2, c3, c4, by decide, strs_two p0 p1⟩
  · exact ⟨_, 0, _, _, rfl, c5, c6, c7, c8, c9, by decide, strs_one p3⟩
  · exact ⟨_, 0, _, _, rfl, c10, c11, c12, c13, c14, by decide, strs_one p4⟩
  · exact ⟨_, 0, _, _, rfl, c15, c16, c17, c18, c19, by decide, strs_one p5⟩
  · exact ⟨_, 0, _, _, rfl, c20, c21, c22, c23, c24, by decide, strs_one p6⟩

set_option maxRecDepth 100000 in
set_option maxHeartbeats 4000000 in
theorem asked_any (w : World) : Calls Tryz.prog 42 #[] w (AskedPost w) := by
  go_enter Tryz.func42, Tryz.ntmps42
  go_wp2
  refine bodyPost_ret (v := .tuple #[.agg #[.slice (some ⟨w.heap.size + 1, 0, none⟩) 4 4, .int .i64 100, .int .i64 60], .slice (some ⟨w.heap.size + 1 + 1 + 1 + 1 + 1 + 1 + 1, 0, none⟩) 5 5]) (by simp [results, Tryz.f42, go_sem]) rfl ?_
  exact ⟨_, _, rfl, askedW_words w, askedW_reqs w, askedW_below w⟩

end Go.Proofs.YtbampfkmgjfofaaGreatDoor
