/- Tongue: which speeches are valid. Tongue: when the interpreter is done. Tongue: from when to when the interpreter may be done. -/
import Derived.Test.YtohahlnhbppnhaaW
import Derived.Deep.RegionHeld3
namespace Go.Proofs.Ytohahlnhbppnhaa
open Go.RowKit
set_option linter.unusedSimpArgs false
set_option linter.unusedVariables false

/-- May an interpreter need so many seconds? -/
def valR (r : Int × Int) : Bool := decide (1 ≤ r.1) && (decide (r.1 ≤ r.2) && decide (r.2 ≤ 60))

set_option maxHeartbeats 400000 in
theorem valR_any (x y : Int) (w : World) : Calls Try.prog 98 #[.agg #[.int .i64 x, .int .i64 y]] w fun e w' => e = .returned (.bool (valR (x, y))) ∧ Below w.heap.size w w' := by
  have hb0 := below_alloc w (.cells #[.int .i64 x, .int .i64 y] 85)
  have hv : valR (x, y) = (decide (1 ≤ x) && (decide (x ≤ y) && decide (y ≤ 60))) := rfl
  rw [hv]
  clear hv
  by_cases h1 : 1 ≤ x <;> by_cases h2 : x ≤ y <;> by_cases h3 : y ≤ 60
  all_goals first | (exfalso; omega) | (go_enter Try.func98, Try.ntmps98; go_wp2_with fail; go_ret; exact ⟨by simp [h1, h2, h3], hb0⟩)

theorem allR_true {p : Int × Int → Bool} {T : List (Int × Int)} (h : ∀ i, i < T.length → p (T.getD i (0, 0)) = true) : T.all p = true := by
  rw [List.all_eq_true]
  intro x hx
  obtain ⟨i, hi, rfl⟩ := List.mem_iff_getElem.1 hx
  have := h i hi
  rwa [List.getD_eq_getElem?_getD, List.getElem?_eq_getElem hi, Option.getD_some] at this

theorem allR_false {p : Int × Int → Bool} {T : List (Int × Int)} {i : Nat} (hi : i < T.length) (h : p (T.getD i (0, 0)) = false) : T.all p = false := by
  cases hv : T.all p
  · rfl
  · rw [List.all_eq_true] at hv
    rw [hv (T.getD i (0, 0)) (by rw [List.getD_eq_getElem?_getD, List.getElem?_eq_getElem hi]; exact List.getElem_mem _)] at h
    cases h

set_option maxHeartbeats 400000 in
theorem valR1_any (x y : Int) (fb : Nat) (w : World) (hf : w.cell? ⟨fb, 0, none⟩ = some (.func (.func 98) #[] #[])) :
    Calls Try.prog 125 #[.agg #[.int .i64 x, .int .i64 y], .pointer (some ⟨fb, 0, none⟩)] w fun e w' => e = .returned (.bool (!valR (x, y))) ∧ Below w.heap.size w w' := by
  have hfb := lt_of_cell hf
  have hB : ∀ o, Below w.heap.size w (w.alloc o) := fun o => below_alloc w o
  have hp := valR_any x y (w.alloc (.cells #[.int .i64 x, .int .i64 y] 85))
  go_enter Try.func125, Try.ntmps125
  go_wp2_with fail
  refine hp.mono ?_
  rintro e w' ⟨rfl, hb⟩
  go_wp2_with fail
  go_ret
  exact ⟨rfl, (hB _).trans (hb.mono (by simp))⟩

set_option maxRecDepth 100000 in
set_option maxHeartbeats 1000000 in
theorem valR_index (T : List (Int × Int)) (n cap fb : Nat) (a : Option Addr) (w : World) (hT : T.length = n) (hn : n ≤ 1000000) (hS : PairsAt w a T) (hf : w.cell? ⟨fb, 0, none⟩ = some (.func (.func 98) #[] #[])) :
    Calls Try.prog 136 #[.slice a n cap, .func (.func 125) #[] #[.pointer (some ⟨fb, 0, none⟩)]] w fun e w' => ∃ z : Int, e = .returned (.int .i64 z) ∧ Below w.heap.size w w' ∧ Hid (decide (0 ≤ z) = !T.all valR) := by
  have HT := hid hT
  clear hT
  go_enter Try.func136, Try.ntmps136
  go_wp2_with fail
  go_loopw [8] (fun i wr => ∃ j : Nat, j ≤ n ∧ i = .int .i64 j ∧ Hid (∀ i, i < j → valR (T.getD i (0, 0)) = true) ∧ Below w.heap.size w wr) (fun i _ => n - (intOf i).toNat)
  case atStart => exact ⟨0, Nat.zero_le _, rfl, hid (fun i hi => by omega), Below.refl _ _⟩
  case round =>
    obtain ⟨j, hj, rfl, HK, hB⟩ := hrel
    by_cases hlt : j < n
    · have hjj : (j : Int) < n := by omega
      obtain ⟨b, off, ea, e1, e2⟩ := hS j (by rw [HT.out]; exact hlt)
      subst ea
      replace e1 := cell_grown hB e1
      replace e2 := cell_grown hB e2
      have gb := lt_of_cell e1
      have hcall := valR1_any (T.getD j (0, 0)).1 (T.getD j (0, 0)).2 fb wr (cell_grown hB hf)
      obtain ⟨r, hr⟩ : ∃ r, valR (T.getD j (0, 0)) = r := ⟨_, rfl⟩
      have hr' : valR ((T.getD j (0, 0)).1, (T.getD j (0, 0)).2) = r := hr
      rw [hr'] at hcall
      have HR := hid hr
      clear hr hr'
      generalize (T.getD j (0, 0)).1 = m at e1 hcall
      generalize (T.getD j (0, 0)).2 = z at e2 hcall
      go_wp2_with fail
      refine hcall.mono ?_
      cases hv : r
      · rintro e w' ⟨rfl, hb⟩
        have hal : T.all valR = false := allR_false (i := j) (by rw [HT.out]; exact hlt) (by rw [HR.out, hv])
        have HAL := hid hal
        clear hv hal
        go_wp2_with fail
        go_ret
        exact ⟨j, rfl, below_then hB hb, hid (by rw [HAL.out]; simp)⟩
      · rintro e w' ⟨rfl, hb⟩
        have HV : Hid (valR (T.getD j (0, 0)) = true) := hid (by rw [HR.out, hv])
        clear hv
        go_wp2_with fail
        go_roundw
        case rel => exact ⟨j + 1, by omega, by go_num, hid (fun i hi => by
          by_cases e : i = j
          · subst e; exact HV.out
          · exact HK.out i (by omega)), below_then hB hb⟩
        case measure => simp [intOf]; omega
    · have hjn : j = n := by omega
      subst hjn
      have hal : T.all valR = true := allR_true (fun i hi => HK.out i (by rw [← HT.out]; exact hi))
      have HAL := hid hal
      clear hal
      go_wp2_with fail
      go_ret
      exact ⟨-1, rfl, hB, hid (by rw [HAL.out]; rfl)⟩

set_option maxHeartbeats 400000 in
theorem valR_all (T : List (Int × Int)) (n cap : Nat) (a : Option Addr) (w : World) (hT : T.length = n) (hn : n ≤ 1000000) (hS : PairsAt w a T) :
    Calls Try.prog 97 #[.slice a n cap, .func (.func 98) #[] #[]] w fun e w' => e = .returned (.bool (T.all valR)) ∧ Below w.heap.size w w' := by
  have hB : Below w.heap.size w (w.alloc (.cells #[.func (.func 98) #[] #[]] 172)) := below_alloc _ _
  have hc : Calls Try.prog 124 #[.slice a n cap, .func (.func 125) #[] #[.pointer (some ⟨w.heap.size, 0, none⟩)]] (w.alloc (.cells #[.func (.func 98) #[] #[]] 172)) fun e w' => e = .returned (.bool (!T.all valR)) ∧ Below (w.alloc (.cells #[.func (.func 98) #[] #[]] 172)).heap.size (w.alloc (.cells #[.func (.func 98) #[] #[]] 172)) w' := by
    have hi := valR_index T n cap w.heap.size a _ hT hn (hS.grown hB) (by simp [go_sem])
    go_enter Try.func124, Try.ntmps124
    go_wp2_with fail
    refine hi.mono ?_
    rintro e w' ⟨z, rfl, hb, hz⟩
    have HZ := hid hz.out
    clear hz
    go_wp2_with fail
    go_ret
    exact ⟨by rw [← HZ.out]; simp, hb⟩
  go_enter Try.func97, Try.ntmps97
  go_wp2_with fail
  refine hc.mono ?_
  rintro e w' ⟨rfl, hb⟩
  go_wp2_with fail
  go_ret
  exact ⟨by simp, hB.trans (hb.mono hB.size)⟩

/-- A speech, as the laws have it. -/
structure Spoken where
  starts : List Int
  lag : Int
  needs : List (Int × Int)

def valP (s : Spoken) : Bool := decide (s.starts.length ≤ 20) && (risingM s.starts 0 100000 && (inB s.lag 1 60 && (decide (s.needs.length = s.starts.length) && s.needs.all valR)))

set_option maxHeartbeats 1000000 in
theorem valP_any (s : Spoken) (ns nc ms mc : Nat) (sa na : Option Addr) (w : World) (h1 : s.starts.length = ns) (h2 : s.needs.length = ms) (hn : ns ≤ 1000000) (hm : ms ≤ 1000000) (hS : IntsAt w sa s.starts) (hN : PairsAt w na s.needs) :
    Calls Try.prog 68 #[.agg #[.slice sa ns nc, .int .i64 s.lag, .slice na ms mc]] w fun e w' => e = .returned (.bool (valP s)) ∧ Below w.heap.size w w' := by
  have hb0 := below_alloc w (.cells #[.slice sa ns nc, .int .i64 s.lag, .slice na ms mc] 78)
  have hr : ∀ W, Below w.heap.size w W → Calls Try.prog 96 #[.slice sa ns nc, .int .i64 0, .int .i64 100000] W fun e w' => e = .returned (.bool (risingM s.starts 0 100000)) ∧ Below W.heap.size W w' := fun W hW => rising_any s.starts 0 100000 _ nc sa W h1 hn (hS.grown hW)
  have ha : ∀ W, Below w.heap.size w W → Calls Try.prog 97 #[.slice na ms mc, .func (.func 98) #[] #[]] W fun e w' => e = .returned (.bool (s.needs.all valR)) ∧ Below W.heap.size W w' := fun W hW => valR_all s.needs _ mc na W h2 hm (hN.grown hW)
  have hw := fun W => within_any s.lag 1 60 W
  unfold valP
  rw [h1, h2]
  generalize s.lag = g at hb0 hw ⊢
  obtain ⟨p1, hp1⟩ : ∃ p, risingM s.starts 0 100000 = p := ⟨_, rfl⟩
  obtain ⟨p2, hp2⟩ : ∃ p, inB g 1 60 = p := ⟨_, rfl⟩
  obtain ⟨p3, hp3⟩ : ∃ p, s.needs.all valR = p := ⟨_, rfl⟩
  rw [hp1] at hr ⊢
  rw [hp2] at hw ⊢
  rw [hp3] at ha ⊢
  clear hp1 hp2 hp3 h1 h2 hS hN
  obtain ⟨W0, hW0⟩ : ∃ X, X = w.alloc (.cells #[.slice sa ns nc, .int .i64 g, .slice na ms mc] 78) := ⟨_, rfl⟩
  rw [← hW0] at hb0
  have c0 : W0.cell? ⟨w.heap.size, 0, none⟩ = some (.slice sa ns nc) := by rw [hW0]; simp
  have c1 : W0.cell? ⟨w.heap.size, 1, none⟩ = some (.int .i64 g) := by rw [hW0]; simp
  have c2 : W0.cell? ⟨w.heap.size, 2, none⟩ = some (.slice na ms mc) := by rw [hW0]; simp
  have g0 := lt_of_cell c0
  subst hW0
  by_cases h1 : ns ≤ 20
  · have h1' : (ns : Int) ≤ 20 := by omega
    cases p1
    · go_enter Try.func68, Try.ntmps68
      go_wp2_with (go_at_call 96; refine (hr _ hb0).mono ?_; rintro e w1 ⟨rfl, hb1⟩)
      go_ret
      exact ⟨by simp, below_then hb0 hb1⟩
    · cases p2
      · go_enter Try.func68, Try.ntmps68
        go_wp2_with (first | (go_at_call 96; refine (hr _ hb0).mono ?_; rintro e w1 ⟨rfl, hb1⟩; replace c1 := cell_grown hb1 c1; have g1 := lt_of_cell c1) | (go_at_call 69; refine (hw _).mono ?_; rintro e w' ⟨rfl, rfl⟩))
        go_ret
        exact ⟨by simp, below_then hb0 hb1⟩
      · by_cases h2 : ms = ns
        · subst h2
          have hd : decide (ms ≤ 20) = true := by simp [h1]
          rw [hd]
          clear hd h1
          go_enter Try.func68, Try.ntmps68
          go_wp2_with (first | (go_at_call 96; refine (hr _ hb0).mono ?_; rintro e w1 ⟨rfl, hb1⟩; replace c0 := cell_grown hb1 c0; replace c1 := cell_grown hb1 c1; replace c2 := cell_grown hb1 c2; have g1 := lt_of_cell c1) | (go_at_call 69; refine (hw _).mono ?_; rintro e w' ⟨rfl, rfl⟩) | (go_at_call 97; refine (ha _ (below_then hb0 hb1)).mono ?_; rintro e w2 ⟨rfl, hb2⟩))
          go_ret
          exact ⟨by simp, below_then hb0 (below_then hb1 hb2)⟩
        · have h2' : ¬ (ms : Int) = ns := by omega
          go_enter Try.func68, Try.ntmps68
          go_wp2_with (first | (go_at_call 96; refine (hr _ hb0).mono ?_; rintro e w1 ⟨rfl, hb1⟩; replace c0 := cell_grown hb1 c0; replace c1 := cell_grown hb1 c1; replace c2 := cell_grown hb1 c2; have g1 := lt_of_cell c1) | (go_at_call 69; refine (hw _).mono ?_; rintro e w' ⟨rfl, rfl⟩))
          go_ret
          exact ⟨by simp [h2], below_then hb0 hb1⟩
  · have h1' : ¬ (ns : Int) ≤ 20 := by omega
    go_enter Try.func68, Try.ntmps68
    go_wp2_with fail
    go_ret
    exact ⟨by simp [h1], hb0⟩

end Go.Proofs.Ytohahlnhbppnhaa

namespace Go.Proofs.Ytohahlnhbppnhaa
open Go.RowKit
set_option linter.unusedSimpArgs false
set_option linter.unusedVariables false

theorem valP_parts {s : Spoken} (h : valP s = true) : s.starts.length ≤ 20 ∧ (∀ i, i < s.starts.length → 0 ≤ s.starts.getD i 0 ∧ s.starts.getD i 0 ≤ 100000) ∧ (∀ i, i + 1 < s.starts.length → s.starts.getD i 0 < s.starts.getD (i + 1) 0) ∧
    (1 ≤ s.lag ∧ s.lag ≤ 60) ∧ s.needs.length = s.starts.length ∧ ∀ i, i < s.starts.length → 1 ≤ (s.needs.getD i (0, 0)).1 ∧ (s.needs.getD i (0, 0)).1 ≤ (s.needs.getD i (0, 0)).2 ∧ (s.needs.getD i (0, 0)).2 ≤ 60 := by
  unfold valP at h
  simp only [Bool.and_eq_true, decide_eq_true_eq] at h
  obtain ⟨h1, h2, h3, h4, h5⟩ := h
  unfold risingM at h2
  rw [List.all_eq_true] at h2
  refine ⟨h1, fun i hi => ?_, fun i hi => ?_, ?_, h4, fun i hi => ?_⟩
  · have := h2 i (List.mem_range.2 hi)
    simp only [riseAt, Bool.and_eq_true, inB, decide_eq_true_eq] at this
    exact this.1
  · have := h2 (i + 1) (List.mem_range.2 hi)
    simp only [riseAt, Bool.and_eq_true, inB, decide_eq_true_eq, Bool.or_eq_true, Nat.add_sub_cancel] at this
    omega
  · simpa only [inB, decide_eq_true_eq] using h3
  · rw [List.all_eq_true] at h5
    have := h5 (s.needs.getD i (0, 0)) (by rw [List.getD_eq_getElem?_getD, List.getElem?_eq_getElem (by omega)]; exact List.getElem_mem _)
    simp only [valR, Bool.and_eq_true, decide_eq_true_eq] at this
    exact this

/-- When the interpreter is done with so many sentences. -/
def freeN (S : List Int) (D : Nat → Int) (lag : Int) : Nat → Int
  | 0 => 0
  | j + 1 => max (S.getD j 0 + lag) (freeN S D lag j) + D j

def doneN (S : List Int) (D : Nat → Int) (lag : Int) (n : Nat) : List Int := (List.range n).map fun j => freeN S D lag (j + 1)

theorem doneN_length (S : List Int) (D : Nat → Int) (lag : Int) (n : Nat) : (doneN S D lag n).length = n := by simp [doneN]

theorem doneN_get (S : List Int) (D : Nat → Int) (lag : Int) (n i : Nat) (h : i < n) : (doneN S D lag n).getD i 0 = freeN S D lag (i + 1) := by
  unfold doneN
  rw [List.getD_eq_getElem?_getD, List.getElem?_map, List.getElem?_range h]
  rfl

def doneV (S : List Int) (D : Nat → Int) (lag : Int) (n : Nat) : List Value := (doneN S D lag n).map fun x => .int .i64 x

theorem doneV_succ (S : List Int) (D : Nat → Int) (lag : Int) (n : Nat) : doneV S D lag (n + 1) = doneV S D lag n ++ [.int .i64 (freeN S D lag (n + 1))] := by
  unfold doneV doneN
  rw [List.range_succ]
  simp

def lows (s : Spoken) (j : Nat) : Int := (s.needs.getD j (0, 0)).1
def highs (s : Spoken) (j : Nat) : Int := (s.needs.getD j (0, 0)).2

theorem end100 (x y : Int) (w : World) : Calls Try.prog 100 #[.agg #[.int .i64 x, .int .i64 y]] w fun e w' => e = .returned (.int .i64 x) ∧ Below w.heap.size w w' := by
  have hb0 := below_alloc w (.cells #[.int .i64 x, .int .i64 y] 85)
  go_enter Try.func100, Try.ntmps100
  go_wp2_with fail
  go_ret
  exact ⟨rfl, hb0⟩

set_option maxRecDepth 100000 in
set_option maxHeartbeats 1000000 in
theorem done100 (s : Spoken) (hv : valP s = true) (n nc mc : Nat) (sa na : Option Addr) (w : World) (h1 : s.starts.length = n) (hS : IntsAt w sa s.starts) (hN : PairsAt w na s.needs) :
    Calls Try.prog 99 #[.agg #[.slice sa n nc, .int .i64 s.lag, .slice na n mc], .func (.func 100) #[] #[]] w fun e w' => ∃ a cap, e = .returned (.slice a n cap) ∧ IntsAt w' a (doneN s.starts (lows s) s.lag n) ∧ Below w.heap.size w w' := by
  obtain ⟨v1, v2, v3, v4, v5, v6⟩ := valP_parts hv
  rw [h1] at v1 v2 v5 v6
  obtain ⟨i0, hi0, hz0, hz1, hz2⟩ := info_parts Try.info3
  obtain ⟨pb, hpb⟩ : ∃ q, q = w.heap.size := ⟨_, rfl⟩
  obtain ⟨W0, hW0⟩ : ∃ X, X = w.alloc (.cells #[.slice sa n nc, .int .i64 s.lag, .slice na n mc] 78) := ⟨_, rfl⟩
  have hB0 : Below w.heap.size w W0 := by rw [hW0]; exact below_alloc _ _
  have p0' : W0.cell? ⟨pb, 0, none⟩ = some (.slice sa n nc) := by rw [hW0, hpb]; simp [go_sem]
  have p1' : W0.cell? ⟨pb, 1, none⟩ = some (.int .i64 s.lag) := by rw [hW0, hpb]; simp [go_sem]
  have p2' : W0.cell? ⟨pb, 2, none⟩ = some (.slice na n mc) := by rw [hW0, hpb]; simp [go_sem]
  replace hS := hS.grown hB0
  replace hN := hN.grown hB0
  have H1 := hid h1
  have H5 := hid v5
  clear v3 v5 h1 hv
  go_enter Try.func99, Try.ntmps99
  go_wp2_with fail
  rw [← hW0, ← hpb]
  have gp := lt_of_cell p0'
  clear hpb hW0
  obtain ⟨g, hg⟩ : ∃ g, s.lag = g := ⟨_, rfl⟩
  rw [hg] at v4 p1' ⊢
  have HG := hid hg
  have V2 := hid v2
  have V6 := hid v6
  clear hg v2 v6
  go_loopw [5, 6, 7, 8, 12] (fun v f _ _ i wr => ∃ (j : Nat) (fr : Int), j ≤ n ∧ i = .int .i64 j ∧ f = .int .i64 fr ∧ Hid (fr = freeN s.starts (lows s) g j) ∧ 0 ≤ fr ∧ fr ≤ 100060 + 60 * j ∧ wr.ownsRow W0.heap.size 3 1 v j (doneV s.starts (lows s) g j) ∧ Below W0.heap.size W0 wr) (fun _ _ _ _ i _ => n - (intOf i).toNat)
  case atStart => exact ⟨0, 0, Nat.zero_le _, rfl, rfl, hid rfl, by omega, by omega, World.ownsRow_nil _ _ _ _, Below.refl _ _⟩
  case round =>
    obtain ⟨j, fr, hj, rfl, rfl, HF, f1, f2, hown, hB⟩ := hrel
    by_cases hlt : j < n
    · have hlt' : (j : Int) < n := by omega
      obtain ⟨b1, off1, ea, c0⟩ := (hS.grown hB) j (by rw [H1.out]; exact hlt)
      obtain ⟨b2, off2, eb, d0, d1⟩ := (hN.grown hB) j (by rw [H5.out]; exact hlt)
      subst ea
      subst eb
      have p1 := cell_grown hB p1'
      have p2 := cell_grown hB p2'
      obtain ⟨x1, x2⟩ := V2.out j hlt
      obtain ⟨y1, y2, y3⟩ := V6.out j hlt
      have HD : Hid (lows s j = (s.needs.getD j (0, 0)).1) := hid rfl
      have HN : Hid (freeN s.starts (lows s) g (j + 1) = max (s.starts.getD j 0 + g) (freeN s.starts (lows s) g j) + lows s j) := hid rfl
      have hvs := doneV_succ s.starts (lows s) g j
      have HV := hid hvs
      clear hvs
      generalize s.starts.getD j 0 = x at c0 x1 x2 HN
      generalize (s.needs.getD j (0, 0)).1 = lo at d0 y1 y2 HD
      generalize (s.needs.getD j (0, 0)).2 = hi at d1 y2 y3 HD
      obtain ⟨mx, hmx⟩ : ∃ m, (if x + g < fr then fr else x + g) = m := ⟨_, rfl⟩
      have hmm : max (x + g) fr = mx := by rw [← hmx]; split <;> omega
      have m1 : 0 ≤ mx := by omega
      have m2 : mx ≤ 100060 + 60 * j := by omega
      have HM := hid hmm
      clear hmm
      have gc := lt_of_cell c0
      have gd := lt_of_cell d0
      have gw := lt_of_cell p1
      obtain ⟨va, vc, rfl⟩ := owns_shape hown
      go_wp2_with fail
      have o1 : ∀ p : Over wr, p.w.cell? ⟨pb, 1, none⟩ = some (.int .i64 g) := fun p => p.cell p1
      have o2 : ∀ p : Over wr, p.w.cell? ⟨pb, 2, none⟩ = some (.slice (some ⟨b2, off2, none⟩) n mc) := fun p => p.cell p2
      have o3 : ∀ p : Over wr, p.w.cell? ⟨b2, off2 + j * 2, none⟩ = some (.int .i64 lo) := fun p => p.cell d0
      have o4 : ∀ p : Over wr, p.w.cell? ⟨b2, off2 + j * 2 + 1, none⟩ = some (.int .i64 hi) := fun p => p.cell d1
      have hend : ∀ p : Over wr, _ := fun p => end100 lo hi p.w
      refine wp_region_over wr (Below.refl _ _) (by kernel_rfl) (by kernel_rfl) ?_
      repeat (go_big_quiet_step (first | (go_at_call 100; exact Calls.over_of (hend _))))
      refine wpQuiet_nil ?_
      intro wz hw'
      clear hmx
      have hbz := over_below hw'
      clear hw' o1 o2 o3 o4 hend
      have hown2 := book_owns hown (grown_none hbz) (fun r e => by cases e)
      go_wp2_with (at_builtin; refine wpList_append_own_at _ rfl _ _ 41 rfl W0.heap.size 3 i0 (.int .i64 0) 1 8 Try.underlying41 hi0 hz0 hz1 hz2 rfl (by decide) _ _ _ rfl (hown2.alloc _) ⟨wz.heap.size, 0, none⟩ 1 1 [.int .i64 (mx + lo)] rfl rfl (cell_one_new _ _ _) (by simp [Value.oneCell']) (by unfold maxLen; omega) (by omega) (by have := hbz.size; have := hB.size; simp; omega) ?_; intro v' w5 hown' hgrow hnil hloc; have hb5 : Below W0.heap.size wz w5 := (((Below.refl W0.heap.size wz).alloc (by have := hbz.size; have := hB.size; omega) _).grown hgrow (by have := hbz.size; have := hB.size; simp; omega) (fun r e => (hown2.lt r e).1)))
      go_roundw
      case rel => exact ⟨j + 1, mx + lo, by omega, by go_num, by go_num, hid (by rw [HN.out, ← HF.out, HD.out, HM.out]), by omega, by omega, by rw [HV.out, HN.out, ← HF.out, HD.out, HM.out]; exact hown', (hB.trans (hbz.mono hB.size)).trans hb5⟩
      case measure => simp [intOf]; omega
    · have hjn : j = n := by omega
      subst hjn
      obtain ⟨va, vc, rfl⟩ := owns_shape hown
      have hin := ints_of_owns (L := doneN s.starts (lows s) g j) (a := va) (cap := vc) (W := wr) (e := 3) (base := W0.heap.size) (by rw [doneN_length]; exact hown)
      go_wp2_with fail
      go_ret
      exact ⟨va, vc, rfl, by rw [HG.out]; exact hin, hB0.trans (hB.mono hB0.size)⟩

theorem end101 (x y : Int) (w : World) : Calls Try.prog 101 #[.agg #[.int .i64 x, .int .i64 y]] w fun e w' => e = .returned (.int .i64 y) ∧ Below w.heap.size w w' := by
  have hb0 := below_alloc w (.cells #[.int .i64 x, .int .i64 y] 85)
  go_enter Try.func101, Try.ntmps101
  go_wp2_with fail
  go_ret
  exact ⟨rfl, hb0⟩

set_option maxRecDepth 100000 in
set_option maxHeartbeats 1000000 in
theorem done101 (s : Spoken) (hv : valP s = true) (n nc mc : Nat) (sa na : Option Addr) (w : World) (h1 : s.starts.length = n) (hS : IntsAt w sa s.starts) (hN : PairsAt w na s.needs) :
    Calls Try.prog 99 #[.agg #[.slice sa n nc, .int .i64 s.lag, .slice na n mc], .func (.func 101) #[] #[]] w fun e w' => ∃ a cap, e = .returned (.slice a n cap) ∧ IntsAt w' a (doneN s.starts (highs s) s.lag n) ∧ Below w.heap.size w w' := by
  obtain ⟨v1, v2, v3, v4, v5, v6⟩ := valP_parts hv
  rw [h1] at v1 v2 v5 v6
  obtain ⟨i0, hi0, hz0, hz1, hz2⟩ := info_parts Try.info3
  obtain ⟨pb, hpb⟩ : ∃ q, q = w.heap.size := ⟨_, rfl⟩
  obtain ⟨W0, hW0⟩ : ∃ X, X = w.alloc (.cells #[.slice sa n nc, .int .i64 s.lag, .slice na n mc] 78) := ⟨_, rfl⟩
  have hB0 : Below w.heap.size w W0 := by rw [hW0]; exact below_alloc _ _
  have p0' : W0.cell? ⟨pb, 0, none⟩ = some (.slice sa n nc) := by rw [hW0, hpb]; simp [go_sem]
  have p1' : W0.cell? ⟨pb, 1, none⟩ = some (.int .i64 s.lag) := by rw [hW0, hpb]; simp [go_sem]
  have p2' : W0.cell? ⟨pb, 2, none⟩ = some (.slice na n mc) := by rw [hW0, hpb]; simp [go_sem]
  replace hS := hS.grown hB0
  replace hN := hN.grown hB0
  have H1 := hid h1
  have H5 := hid v5
  clear v3 v5 h1 hv
  go_enter Try.func99, Try.ntmps99
  go_wp2_with fail
  rw [← hW0, ← hpb]
  have gp := lt_of_cell p0'
  clear hpb hW0
  obtain ⟨g, hg⟩ : ∃ g, s.lag = g := ⟨_, rfl⟩
  rw [hg] at v4 p1' ⊢
  have HG := hid hg
  have V2 := hid v2
  have V6 := hid v6
  clear hg v2 v6
  go_loopw [5, 6, 7, 8, 12] (fun v f _ _ i wr => ∃ (j : Nat) (fr : Int), j ≤ n ∧ i = .int .i64 j ∧ f = .int .i64 fr ∧ Hid (fr = freeN s.starts (highs s) g j) ∧ 0 ≤ fr ∧ fr ≤ 100060 + 60 * j ∧ wr.ownsRow W0.heap.size 3 1 v j (doneV s.starts (highs s) g j) ∧ Below W0.heap.size W0 wr) (fun _ _ _ _ i _ => n - (intOf i).toNat)
  case atStart => exact ⟨0, 0, Nat.zero_le _, rfl, rfl, hid rfl, by omega, by omega, World.ownsRow_nil _ _ _ _, Below.refl _ _⟩
  case round =>
    obtain ⟨j, fr, hj, rfl, rfl, HF, f1, f2, hown, hB⟩ := hrel
    by_cases hlt : j < n
    · have hlt' : (j : Int) < n := by omega
      obtain ⟨b1, off1, ea, c0⟩ := (hS.grown hB) j (by rw [H1.out]; exact hlt)
      obtain ⟨b2, off2, eb, d0, d1⟩ := (hN.grown hB) j (by rw [H5.out]; exact hlt)
      subst ea
      subst eb
      have p1 := cell_grown hB p1'
      have p2 := cell_grown hB p2'
      obtain ⟨x1, x2⟩ := V2.out j hlt
      obtain ⟨y1, y2, y3⟩ := V6.out j hlt
      have HD : Hid (highs s j = (s.needs.getD j (0, 0)).2) := hid rfl
      have HN : Hid (freeN s.starts (highs s) g (j + 1) = max (s.starts.getD j 0 + g) (freeN s.starts (highs s) g j) + highs s j) := hid rfl
      have hvs := doneV_succ s.starts (highs s) g j
      have HV := hid hvs
      clear hvs
      generalize s.starts.getD j 0 = x at c0 x1 x2 HN
      generalize (s.needs.getD j (0, 0)).1 = lo at d0 y1 y2 HD
      generalize (s.needs.getD j (0, 0)).2 = hi at d1 y2 y3 HD
      obtain ⟨mx, hmx⟩ : ∃ m, (if x + g < fr then fr else x + g) = m := ⟨_, rfl⟩
      have hmm : max (x + g) fr = mx := by rw [← hmx]; split <;> omega
      have m1 : 0 ≤ mx := by omega
      have m2 : mx ≤ 100060 + 60 * j := by omega
      have HM := hid hmm
      clear hmm
      have gc := lt_of_cell c0
      have gd := lt_of_cell d0
      have gw := lt_of_cell p1
      obtain ⟨va, vc, rfl⟩ := owns_shape hown
      go_wp2_with fail
      have o1 : ∀ p : Over wr, p.w.cell? ⟨pb, 1, none⟩ = some (.int .i64 g) := fun p => p.cell p1
      have o2 : ∀ p : Over wr, p.w.cell? ⟨pb, 2, none⟩ = some (.slice (some ⟨b2, off2, none⟩) n mc) := fun p => p.cell p2
      have o3 : ∀ p : Over wr, p.w.cell? ⟨b2, off2 + j * 2, none⟩ = some (.int .i64 lo) := fun p => p.cell d0
      have o4 : ∀ p : Over wr, p.w.cell? ⟨b2, off2 + j * 2 + 1, none⟩ = some (.int .i64 hi) := fun p => p.cell d1
      have hend : ∀ p : Over wr, _ := fun p => end101 lo hi p.w
      refine wp_region_over wr (Below.refl _ _) (by kernel_rfl) (by kernel_rfl) ?_
      repeat (go_big_quiet_step (first | (go_at_call 101; exact Calls.over_of (hend _))))
      refine wpQuiet_nil ?_
      intro wz hw'
      clear hmx
      have hbz := over_below hw'
      clear hw' o1 o2 o3 o4 hend
      have hown2 := book_owns hown (grown_none hbz) (fun r e => by cases e)
      go_wp2_with (at_builtin; refine wpList_append_own_at _ rfl _ _ 41 rfl W0.heap.size 3 i0 (.int .i64 0) 1 8 Try.underlying41 hi0 hz0 hz1 hz2 rfl (by decide) _ _ _ rfl (hown2.alloc _) ⟨wz.heap.size, 0, none⟩ 1 1 [.int .i64 (mx + hi)] rfl rfl (cell_one_new _ _ _) (by simp [Value.oneCell']) (by unfold maxLen; omega) (by omega) (by have := hbz.size; have := hB.size; simp; omega) ?_; intro v' w5 hown' hgrow hnil hloc; have hb5 : Below W0.heap.size wz w5 := (((Below.refl W0.heap.size wz).alloc (by have := hbz.size; have := hB.size; omega) _).grown hgrow (by have := hbz.size; have := hB.size; simp; omega) (fun r e => (hown2.lt r e).1)))
      go_roundw
      case rel => exact ⟨j + 1, mx + hi, by omega, by go_num, by go_num, hid (by rw [HN.out, ← HF.out, HD.out, HM.out]), by omega, by omega, by rw [HV.out, HN.out, ← HF.out, HD.out, HM.out]; exact hown', (hB.trans (hbz.mono hB.size)).trans hb5⟩
      case measure => simp [intOf]; omega
    · have hjn : j = n := by omega
      subst hjn
      obtain ⟨va, vc, rfl⟩ := owns_shape hown
      have hin := ints_of_owns (L := doneN s.starts (highs s) g j) (a := va) (cap := vc) (W := wr) (e := 3) (base := W0.heap.size) (by rw [doneN_length]; exact hown)
      go_wp2_with fail
      go_ret
      exact ⟨va, vc, rfl, by rw [HG.out]; exact hin, hB0.trans (hB.mono hB0.size)⟩

end Go.Proofs.Ytohahlnhbppnhaa

namespace Go.Proofs.Ytohahlnhbppnhaa
open Go.RowKit
set_option linter.unusedSimpArgs false
set_option linter.unusedVariables false

/-- An append to a row of the call's own, at a step of a region. -/
theorem step_append_at {P : Program} {w : World} {ops : Array Oper} {o : Oper} {a : Act} {K : Act → World → Prop} {Q : Exit → Act → World → Prop} {E : Prop} (hgd : o.guard = none) (s x : Operand) (t : TypeId)
    (ho : o.op = .call { callee := .builtin .append, args := #[s, x], argTypes := #[t, t] })
    (base : Nat) (e : TypeId) (i : TypeInfo) (z : Value) (size bytes : Nat) (ht : P.underlying t = some (.slice e)) (hi : P.info? e = some i) (hz : i.zero = some z)
    (hsize : i.size = size) (hby : i.bytes = bytes) (hzs : z.cells.size = size) (hsz : 0 < size)
    (v : Value) (n : Nat) (xs : List Value) (hs : a.eval s = v) (hown : w.ownsRow base e size v n xs)
    (ad : Addr) (m c : Nat) (news : List Value) (hx : a.eval x = .slice (some ad) m c) (hl : news.length = m * size) (hnews : ∀ j u, news[j]? = some u → w.cell? (ad.add j) = some u) (h1 : ∀ u ∈ news, u.oneCell' = true)
    (h63 : n + m ≤ maxLen) (hbytes : (n + m) * bytes ≤ 140737488355328) (hbase : base ≤ w.heap.size)
    (h : ∀ v' w', w'.ownsRow base e size v' (n + m) (xs ++ news) → w.grownBy w' v.ownBlock → K (a.put o.dst v') w') :
    if Region.wanted o (yielded ops a.tmps) = true then Oper.wp P o a w K Q else E := by
  have hw : Region.wanted o (yielded ops a.tmps) = true := by simp [Region.wanted, hgd]
  rw [if_pos hw]
  obtain ⟨v', w', hr, h2, h3, -, -⟩ := run_append_own_at (P := P) w base t o.type e i z size bytes ht hi hz hsize hby hzs hsz v n xs hown ad m c news hl hnews h1 h63 hbytes hbase
  unfold Oper.wp
  simp [execOp, ho, resolve, invoke, builtin, hs, hx, hr, Result.andThen]
  exact h v' w' h2 h3

def flatP : List (Int × Int) → List Value
  | [] => []
  | r :: l => .int .i64 r.1 :: .int .i64 r.2 :: flatP l

theorem flatP_append (l m : List (Int × Int)) : flatP (l ++ m) = flatP l ++ flatP m := by
  induction l with
  | nil => rfl
  | cons x l ih => simp [flatP, ih]

theorem flatP_get (l : List (Int × Int)) : ∀ i, i < l.length → (flatP l)[i * 2]? = some (.int .i64 (l.getD i (0, 0)).1) ∧ (flatP l)[i * 2 + 1]? = some (.int .i64 (l.getD i (0, 0)).2) := by
  induction l with
  | nil => intro i hi; simp at hi
  | cons x l ih =>
    intro i hi
    cases i with
    | zero => exact ⟨rfl, rfl⟩
    | succ i =>
      have := ih i (by simpa using hi)
      rw [Nat.succ_mul]
      exact this

theorem pairs_of_owns {W : World} {base : Nat} {e : TypeId} {a : Option Addr} {cap : Nat} {T : List (Int × Int)} (h : W.ownsRow base e 2 (.slice a T.length cap) T.length (flatP T)) : PairsAt W a T := by
  intro i hi
  rcases h.2 with ⟨_, h0⟩ | ⟨g, cap', cur, hv, _, hg, _⟩
  · omega
  · simp only [Value.slice.injEq] at hv
    obtain ⟨rfl, -, -⟩ := hv
    have hc := h.cells (g := g) rfl
    have hadd : ∀ j, (⟨g, 0, none⟩ : Addr).add j = ⟨g, 0 + j, none⟩ := fun j => by unfold Addr.add; split <;> simp_all
    obtain ⟨e1, e2⟩ := flatP_get T i hi
    have c1 := hc _ _ e1
    have c2 := hc _ _ e2
    rw [hadd] at c1 c2
    exact ⟨g, 0, rfl, c1, by rw [Nat.add_assoc]; exact c2⟩

theorem pair_new (w : World) (v0 v1 : Value) (t : TypeId) : ∀ j u, [v0, v1][j]? = some u → (w.alloc (.cells #[v0, v1] t)).cell? ((⟨w.heap.size, 0, none⟩ : Addr).add j) = some u := by
  intro j u hj
  match j, hj with
  | 0, hj => simp at hj; subst hj; simp [Addr.add]
  | 1, hj => simp at hj; subst hj; simp [Addr.add]
  | j + 2, hj => simp at hj

theorem Try.info85 : (Try.prog.info? 85).map (fun i => (i.zero, i.size, i.bytes)) = some (some (.agg #[.int .i64 0, .int .i64 0]), 2, 16) := by kernel_rfl

/-- From when to when the interpreter may be done with each sentence. -/
def timesN (s : Spoken) (n : Nat) : List (Int × Int) := (List.range n).map fun j => (freeN s.starts (lows s) s.lag (j + 1), freeN s.starts (highs s) s.lag (j + 1))

theorem timesN_length (s : Spoken) (n : Nat) : (timesN s n).length = n := by simp [timesN]

theorem timesN_succ (s : Spoken) (n : Nat) : timesN s (n + 1) = timesN s n ++ [(freeN s.starts (lows s) s.lag (n + 1), freeN s.starts (highs s) s.lag (n + 1))] := by
  unfold timesN
  rw [List.range_succ]
  simp

set_option maxRecDepth 100000 in
set_option maxHeartbeats 1000000 in
theorem times_any (s : Spoken) (hv : valP s = true) (n nc mc : Nat) (sa na : Option Addr) (w : World) (h1 : s.starts.length = n) (hS : IntsAt w sa s.starts) (hN : PairsAt w na s.needs) :
    Calls Try.prog 70 #[.agg #[.slice sa n nc, .int .i64 s.lag, .slice na n mc]] w fun e w' => ∃ a cap, e = .returned (.slice a n cap) ∧ PairsAt w' a (timesN s n) ∧ Below w.heap.size w w' := by
  have hn : n ≤ 20 := by rw [← h1]; exact (valP_parts hv).1
  obtain ⟨i0, hi0, hz0, hz1, hz2⟩ := info_parts Try.info85
  obtain ⟨pb, hpb⟩ : ∃ q, q = w.heap.size := ⟨_, rfl⟩
  obtain ⟨W0, hW0⟩ : ∃ X, X = w.alloc (.cells #[.slice sa n nc, .int .i64 s.lag, .slice na n mc] 78) := ⟨_, rfl⟩
  have hB0 : Below w.heap.size w W0 := by rw [hW0]; exact below_alloc _ _
  have p0 : W0.cell? ⟨pb, 0, none⟩ = some (.slice sa n nc) := by rw [hW0, hpb]; simp [go_sem]
  have p1 : W0.cell? ⟨pb, 1, none⟩ = some (.int .i64 s.lag) := by rw [hW0, hpb]; simp [go_sem]
  have p2 : W0.cell? ⟨pb, 2, none⟩ = some (.slice na n mc) := by rw [hW0, hpb]; simp [go_sem]
  replace hS := hS.grown hB0
  replace hN := hN.grown hB0
  have h100 := fun W (hb : Below W0.heap.size W0 W) => done100 s hv n nc mc sa na W h1 (hS.grown hb) (hN.grown hb)
  have h101 := fun W (hb : Below W0.heap.size W0 W) => done101 s hv n nc mc sa na W h1 (hS.grown hb) (hN.grown hb)
  clear hS hN hv h1
  have hBd : Below W0.heap.size W0 W0.drew := (Below.refl _ _).drew
  have hsu := timesN_succ s
  have HL := hid (timesN_length s)
  obtain ⟨g, hg⟩ : ∃ g, s.lag = g := ⟨_, rfl⟩
  simp only [hg] at hsu
  have HSU := hid hsu
  rw [hg] at p1 hW0
  simp only [hg] at h100 h101 ⊢
  clear hg hsu
  go_enter Try.func70, Try.ntmps70
  go_wp2_with fail
  rw [← hW0, ← hpb]
  clear hpb hW0
  go_region_held3 (fun w' : World => w'.cell? ⟨pb, 0, none⟩ = some (.slice sa n nc) ∧ w'.cell? ⟨pb, 1, none⟩ = some (.int .i64 g) ∧ w'.cell? ⟨pb, 2, none⟩ = some (.slice na n mc)) (first | with_reducible exact ⟨cell_grown hBd p0, cell_grown hBd p1, cell_grown hBd p2⟩ | with_reducible exact ⟨cell_grown hbA p0, cell_grown hbA p1, cell_grown hbA p2⟩ | with_reducible exact ⟨cell_grown hbB p0, cell_grown hbB p1, cell_grown hbB p2⟩) (first | (go_at_call 99; first | (refine (h101 _ hbA).mono ?_; rintro e wB ⟨a2, k2, rfl, i2, hb⟩; replace i1 := i1.grown hb; have hbB := hbA.trans (hb.mono hbA.size); clear hb) | (refine (h100 _ hbA).mono ?_; rintro e wB ⟨a1, k1, rfl, i1, hb⟩; replace i2 := i2.grown hb; have hbB := hbA.trans (hb.mono hbA.size); clear hb) | (refine (h100 _ hBd).mono ?_; rintro e wA ⟨a1, k1, rfl, i1, hb⟩; have hbA := hBd.trans (hb.mono hBd.size); clear hb) | (refine (h101 _ hBd).mono ?_; rintro e wA ⟨a2, k2, rfl, i2, hb⟩; have hbA := hBd.trans (hb.mono hBd.size); clear hb)))
  have hb0 : Below w.heap.size w wB := hB0.trans (hbB.mono hB0.size)
  replace p0 := cell_grown hbB p0
  have gp := lt_of_cell p0
  clear hbA hBd hbB h100 h101 p1 p2 hB0
  go_wp2_with fail
  go_loopw [5, 6, 14] (fun v _ i wr => ∃ j : Nat, j ≤ n ∧ i = .int .i64 j ∧ wr.ownsRow wB.heap.size 85 2 v j (flatP (timesN s j)) ∧ Below wB.heap.size wB wr) (fun _ _ i _ => n - (intOf i).toNat)
  case atStart => exact ⟨0, Nat.zero_le _, rfl, World.ownsRow_nil _ _ _ _, Below.refl _ _⟩
  case round =>
    obtain ⟨j, hj, rfl, hown, hB⟩ := hrel
    by_cases hlt : j < n
    · have hlt' : (j : Int) < n := by omega
      obtain ⟨b1, off1, ea, c1⟩ := i1 j (by rw [doneN_length]; exact hlt)
      obtain ⟨b2, off2, eb, c2⟩ := i2 j (by rw [doneN_length]; exact hlt)
      rw [doneN_get _ _ _ _ _ hlt] at c1 c2
      subst ea
      subst eb
      have hvs := HSU.out j
      generalize freeN s.starts (lows s) g (j + 1) = x at c1 hvs
      generalize freeN s.starts (highs s) g (j + 1) = y at c2 hvs
      have HV := hid hvs
      clear hvs
      have g1 := lt_of_cell c1
      have g2 := lt_of_cell c2
      replace c1 := cell_grown hB c1
      replace c2 := cell_grown hB c2
      have q1 := lt_of_cell c1
      have q2 := lt_of_cell c2
      have hBr : Below wr.heap.size wr wr.drew := (Below.refl _ _).drew
      have hzB := hB.size
      have hbl : Below wr.heap.size wr (wr.alloc (.cells #[.int .i64 x, .int .i64 y] 85)).drew := (below_alloc _ _).drew
      have hownA := book_owns hown (grown_none hbl) (fun r e => by cases e)
      obtain ⟨va, vc, rfl⟩ := owns_shape hown
      go_wp2_with fail
      go_region_held3 (fun w' : World => w'.cell? ⟨b1, off1 + j, none⟩ = some (.int .i64 x) ∧ w'.cell? ⟨b2, off2 + j, none⟩ = some (.int .i64 y)) (first | with_reducible exact ⟨cell_grown hBr c1, cell_grown hBr c2⟩ | with_reducible exact ⟨cell_grown hbl c1, cell_grown hbl c2⟩ | with_reducible exact ⟨z1, z2⟩) (first | (refine step_append_at rfl _ _ 74 rfl wB.heap.size 85 i0 (.agg #[.int .i64 0, .int .i64 0]) 2 16 Try.underlying74 hi0 hz0 hz1 hz2 rfl (by decide) _ j _ rfl hownA _ 1 1 [.int .i64 x, .int .i64 y] rfl rfl (pair_new wr _ _ 85) (by simp [Value.oneCell']) (by unfold maxLen; omega) (by omega) (by have := hbl.size; omega) ?_; intro v' w5 hown' hgrow; have hb5 : Below wB.heap.size wr w5 := (hbl.mono hzB).trans ((Below.refl wB.heap.size _).grown hgrow (by have := hbl.size; omega) (fun r e => (hownA.lt r e).1)); have z1 := cell_below hb5 g1 c1; have z2 := cell_below hb5 g2 c2))
      go_wp2_with fail
      go_roundw
      case rel => exact ⟨j + 1, by omega, by go_num, by rw [HV.out, flatP_append]; exact hown', hB.trans hb5⟩
      case measure => simp [intOf]; omega
    · have hjn : j = n := by omega
      subst hjn
      obtain ⟨va, vc, rfl⟩ := owns_shape hown
      have hin := pairs_of_owns (T := timesN s j) (a := va) (cap := vc) (W := wr) (e := 85) (base := wB.heap.size) (by rw [HL.out]; exact hown)
      go_wp2_with fail
      go_ret
      exact ⟨va, vc, rfl, hin, hb0.trans (hB.mono hb0.size)⟩

end Go.Proofs.Ytohahlnhbppnhaa
