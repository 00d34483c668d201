/- Tongue: when the interpreter is done. -/
import Derived.Test.YtohahlnhbppnhaaX
namespace Go.Proofs.Ytohahlnhbppnhaa
open Go.RowKit
set_option linter.unusedSimpArgs false
set_option linter.unusedVariables false

theorem valP_parts {s : Spoken} (h : valP s = true) : s.starts.length ≤ 20 ∧ (∀ i, i < s.starts.length → 0 ≤ s.starts.getD i 0 ∧ s.starts.getD i 0 ≤ 100000) ∧ (∀ i, i + 1 < s.starts.length → s.starts.getD i 0 < s.starts.getD (i + 1) 0) ∧
    (1 ≤ s.lag ∧ s.lag ≤ 60) ∧ s.needs.length = s.starts.length ∧ ∀ i, i < s.starts.length → 1 ≤ (s.needs.getD i (0, 0)).1 ∧ (s.needs.getD i (0, 0)).1 ≤ (s.needs.getD i (0, 0)).2 ∧ (s.needs.getD i (0, 0)).2 ≤ 60 := by
  unfold valP at h
  simp only [Bool.and_eq_true, decide_eq_true_eq] at h
  obtain ⟨h1, h2, h3, h4, h5⟩ := h
  unfold risingM at h2
  rw [List.all_eq_true] at h2
  refine ⟨h1, fun i hi => ?_, fun i hi => ?_, ?_, h4, fun i hi => ?_⟩
  · have := h2 i (List.mem_range.2 hi)
    simp only [riseAt, Bool.and_eq_true, inB, decide_eq_true_eq] at this
    exact this.1
  · have := h2 (i + 1) (List.mem_range.2 hi)
    simp only [riseAt, Bool.and_eq_true, inB, decide_eq_true_eq, Bool.or_eq_true, Nat.add_sub_cancel] at this
    omega
  · simpa only [inB, decide_eq_true_eq] using h3
  · rw [List.all_eq_true] at h5
    have := h5 (s.needs.getD i (0, 0)) (by rw [List.getD_eq_getElem?_getD, List.getElem?_eq_getElem (by omega)]; exact List.getElem_mem _)
    simp only [valR, Bool.and_eq_true, decide_eq_true_eq] at this
    exact this

/-- When the interpreter is done with so many sentences. -/
def freeN (S : List Int) (D : Nat → Int) (lag : Int) : Nat → Int
  | 0 => 0
  | j + 1 => max (S.getD j 0 + lag) (freeN S D lag j) + D j

def doneN (S : List Int) (D : Nat → Int) (lag : Int) (n : Nat) : List Int := (List.range n).map fun j => freeN S D lag (j + 1)

theorem doneN_length (S : List Int) (D : Nat → Int) (lag : Int) (n : Nat) : (doneN S D lag n).length = n := by simp [doneN]

theorem doneN_get (S : List Int) (D : Nat → Int) (lag : Int) (n i : Nat) (h : i < n) : (doneN S D lag n).getD i 0 = freeN S D lag (i + 1) := by
  unfold doneN
  rw [List.getD_eq_getElem?_getD, List.getElem?_map, List.getElem?_range h]
  rfl

def doneV (S : List Int) (D : Nat → Int) (lag : Int) (n : Nat) : List Value := (doneN S D lag n).map fun x => .int .i64 x

theorem doneV_succ (S : List Int) (D : Nat → Int) (lag : Int) (n : Nat) : doneV S D lag (n + 1) = doneV S D lag n ++ [.int .i64 (freeN S D lag (n + 1))] := by
  unfold doneV doneN
  rw [List.range_succ]
  simp

def lows (s : Spoken) (j : Nat) : Int := (s.needs.getD j (0, 0)).1
def highs (s : Spoken) (j : Nat) : Int := (s.needs.getD j (0, 0)).2

theorem end100 (x y : Int) (w : World) : Calls Try.prog 100 #[.agg #[.int .i64 x, .int .i64 y]] w fun e w' => e = .returned (.int .i64 x) ∧ Below w.heap.size w w' := by
  have hb0 := below_alloc w (.cells #[.int .i64 x, .int .i64 y] 85)
  go_enter Try.func100, Try.ntmps100
  go_wp2_with fail
  go_ret
  exact ⟨rfl, hb0⟩

set_option maxRecDepth 100000 in
set_option maxHeartbeats 1000000 in
theorem done100 (s : Spoken) (hv : valP s = true) (n nc mc : Nat) (sa na : Option Addr) (w : World) (h1 : s.starts.length = n) (hS : IntsAt w sa s.starts) (hN : PairsAt w na s.needs) :
    Calls Try.prog 99 #[.agg #[.slice sa n nc, .int .i64 s.lag, .slice na n mc], .func (.func 100) #[] #[]] w fun e w' => ∃ a cap, e = .returned (.slice a n cap) ∧ IntsAt w' a (doneN s.starts (lows s) s.lag n) ∧ Below w.heap.size w w' := by
  obtain ⟨v1, v2, v3, v4, v5, v6⟩ := valP_parts hv
  rw [h1] at v1 v2 v5 v6
  obtain ⟨i0, hi0, hz0, hz1, hz2⟩ := info_parts Try.info3
  obtain ⟨pb, hpb⟩ : ∃ q, q = w.heap.size := ⟨_, rfl⟩
  obtain ⟨W0, hW0⟩ : ∃ X, X = w.alloc (.cells #[.slice sa n nc, .int .i64 s.lag, .slice na n mc] 78) := ⟨_, rfl⟩
  have hB0 : Below w.heap.size w W0 := by rw [hW0]; exact below_alloc _ _
  have p0' : W0.cell? ⟨pb, 0, none⟩ = some (.slice sa n nc) := by rw [hW0, hpb]; simp [go_sem]
  have p1' : W0.cell? ⟨pb, 1, none⟩ = some (.int .i64 s.lag) := by rw [hW0, hpb]; simp [go_sem]
  have p2' : W0.cell? ⟨pb, 2, none⟩ = some (.slice na n mc) := by rw [hW0, hpb]; simp [go_sem]
  replace hS := hS.grown hB0
  replace hN := hN.grown hB0
  have H1 := hid h1
  have H5 := hid v5
  clear v3 v5 h1 hv
  go_enter Try.func99, Try.ntmps99
  go_wp2_with fail
  rw [← hW0, ← hpb]
  have gp := lt_of_cell p0'
  clear hpb hW0
  obtain ⟨g, hg⟩ : ∃ g, s.lag = g := ⟨_, rfl⟩
  rw [hg] at v4 p1' ⊢
  have HG := hid hg
  have V2 := hid v2
  have V6 := hid v6
  clear hg v2 v6
  go_loopw [5, 6, 7, 8, 12] (fun v f _ _ i wr => ∃ (j : Nat) (fr : Int), j ≤ n ∧ i = .int .i64 j ∧ f = .int .i64 fr ∧ Hid (fr = freeN s.starts (lows s) g j) ∧ 0 ≤ fr ∧ fr ≤ 100060 + 60 * j ∧ wr.ownsRow W0.heap.size 3 1 v j (doneV s.starts (lows s) g j) ∧ Below W0.heap.size W0 wr) (fun _ _ _ _ i _ => n - (intOf i).toNat)
  case atStart => exact ⟨0, 0, Nat.zero_le _, rfl, rfl, hid rfl, by omega, by omega, World.ownsRow_nil _ _ _ _, Below.refl _ _⟩
  case round =>
    obtain ⟨j, fr, hj, rfl, rfl, HF, f1, f2, hown, hB⟩ := hrel
    by_cases hlt : j < n
    · have hlt' : (j : Int) < n := by omega
      obtain ⟨b1, off1, ea, c0⟩ := (hS.grown hB) j (by rw [H1.out]; exact hlt)
      obtain ⟨b2, off2, eb, d0, d1⟩ := (hN.grown hB) j (by rw [H5.out]; exact hlt)
      subst ea
      subst eb
      have p1 := cell_grown hB p1'
      have p2 := cell_grown hB p2'
      obtain ⟨x1, x2⟩ := V2.out j hlt
      obtain ⟨y1, y2, y3⟩ := V6.out j hlt
      have HD : Hid (lows s j = (s.needs.getD j (0, 0)).1) := hid rfl
      have HN : Hid (freeN s.starts (lows s) g (j + 1) = max (s.starts.getD j 0 + g) (freeN s.starts (lows s) g j) + lows s j) := hid rfl
      have hvs := doneV_succ s.starts (lows s) g j
      have HV := hid hvs
      clear hvs
      generalize s.starts.getD j 0 = x at c0 x1 x2 HN
      generalize (s.needs.getD j (0, 0)).1 = lo at d0 y1 y2 HD
      generalize (s.needs.getD j (0, 0)).2 = hi at d1 y2 y3 HD
      obtain ⟨mx, hmx⟩ : ∃ m, (if x + g < fr then fr else x + g) = m := ⟨_, rfl⟩
      have hmm : max (x + g) fr = mx := by rw [← hmx]; split <;> omega
      have m1 : 0 ≤ mx := by omega
      have m2 : mx ≤ 100060 + 60 * j := by omega
      have HM := hid hmm
      clear hmm
      have gc := lt_of_cell c0
      have gd := lt_of_cell d0
      have gw := lt_of_cell p1
      obtain ⟨va, vc, rfl⟩ := owns_shape hown
      go_wp2_with fail
      have o1 : ∀ p : Over wr, p.w.cell? ⟨pb, 1, none⟩ = some (.int .i64 g) := fun p => p.cell p1
      have o2 : ∀ p : Over wr, p.w.cell? ⟨pb, 2, none⟩ = some (.slice (some ⟨b2, off2, none⟩) n mc) := fun p => p.cell p2
      have o3 : ∀ p : Over wr, p.w.cell? ⟨b2, off2 + j * 2, none⟩ = some (.int .i64 lo) := fun p => p.cell d0
      have o4 : ∀ p : Over wr, p.w.cell? ⟨b2, off2 + j * 2 + 1, none⟩ = some (.int .i64 hi) := fun p => p.cell d1
      have hend : ∀ p : Over wr, _ := fun p => end100 lo hi p.w
      refine wp_region_over wr (Below.refl _ _) (by kernel_rfl) (by kernel_rfl) ?_
      repeat (go_big_quiet_step (first | (go_at_call 100; exact Calls.over_of (hend _))))
      refine wpQuiet_nil ?_
      intro wz hw'
      clear hmx
      have hbz := over_below hw'
      clear hw' o1 o2 o3 o4 hend
      have hown2 := book_owns hown (grown_none hbz) (fun r e => by cases e)
      go_wp2_with (at_builtin; refine wpList_append_own_at _ rfl _ _ 41 rfl W0.heap.size 3 i0 (.int .i64 0) 1 8 Try.underlying41 hi0 hz0 hz1 hz2 rfl (by decide) _ _ _ rfl (hown2.alloc _) ⟨wz.heap.size, 0, none⟩ 1 1 [.int .i64 (mx + lo)] rfl rfl (cell_one_new _ _ _) (by simp [Value.oneCell']) (by unfold maxLen; omega) (by omega) (by have := hbz.size; have := hB.size; simp; omega) ?_; intro v' w5 hown' hgrow hnil hloc; have hb5 : Below W0.heap.size wz w5 := (((Below.refl W0.heap.size wz).alloc (by have := hbz.size; have := hB.size; omega) _).grown hgrow (by have := hbz.size; have := hB.size; simp; omega) (fun r e => (hown2.lt r e).1)))
      go_roundw
      case rel => exact ⟨j + 1, mx + lo, by omega, by go_num, by go_num, hid (by rw [HN.out, ← HF.out, HD.out, HM.out]), by omega, by omega, by rw [HV.out, HN.out, ← HF.out, HD.out, HM.out]; exact hown', (hB.trans (hbz.mono hB.size)).trans hb5⟩
      case measure => simp [intOf]; omega
    · have hjn : j = n := by omega
      subst hjn
      obtain ⟨va, vc, rfl⟩ := owns_shape hown
      have hin := ints_of_owns (L := doneN s.starts (lows s) g j) (a := va) (cap := vc) (W := wr) (e := 3) (base := W0.heap.size) (by rw [doneN_length]; exact hown)
      go_wp2_with fail
      go_ret
      exact ⟨va, vc, rfl, by rw [HG.out]; exact hin, hB0.trans (hB.mono hB0.size)⟩

theorem end101 (x y : Int) (w : World) : Calls Try.prog 101 #[.agg #[.int .i64 x, .int .i64 y]] w fun e w' => e = .returned (.int .i64 y) ∧ Below w.heap.size w w' := by
  have hb0 := below_alloc w (.cells #[.int .i64 x, .int .i64 y] 85)
  go_enter Try.func101, Try.ntmps101
  go_wp2_with fail
  go_ret
  exact ⟨rfl, hb0⟩

set_option maxRecDepth 100000 in
set_option maxHeartbeats 1000000 in
theorem done101 (s : Spoken) (hv : valP s = true) (n nc mc : Nat) (sa na : Option Addr) (w : World) (h1 : s.starts.length = n) (hS : IntsAt w sa s.starts) (hN : PairsAt w na s.needs) :
    Calls Try.prog 99 #[.agg #[.slice sa n nc, .int .i64 s.lag, .slice na n mc], .func (.func 101) #[] #[]] w fun e w' => ∃ a cap, e = .returned (.slice a n cap) ∧ IntsAt w' a (doneN s.starts (highs s) s.lag n) ∧ Below w.heap.size w w' := by
  obtain ⟨v1, v2, v3, v4, v5, v6⟩ := valP_parts hv
  rw [h1] at v1 v2 v5 v6
  obtain ⟨i0, hi0, hz0, hz1, hz2⟩ := info_parts Try.info3
  obtain ⟨pb, hpb⟩ : ∃ q, q = w.heap.size := ⟨_, rfl⟩
  obtain ⟨W0, hW0⟩ : ∃ X, X = w.alloc (.cells #[.slice sa n nc, .int .i64 s.lag, .slice na n mc] 78) := ⟨_, rfl⟩
  have hB0 : Below w.heap.size w W0 := by rw [hW0]; exact below_alloc _ _
  have p0' : W0.cell? ⟨pb, 0, none⟩ = some (.slice sa n nc) := by rw [hW0, hpb]; simp [go_sem]
  have p1' : W0.cell? ⟨pb, 1, none⟩ = some (.int .i64 s.lag) := by rw [hW0, hpb]; simp [go_sem]
  have p2' : W0.cell? ⟨pb, 2, none⟩ = some (.slice na n mc) := by rw [hW0, hpb]; simp [go_sem]
  replace hS := hS.grown hB0
  replace hN := hN.grown hB0
  have H1 := hid h1
  have H5 := hid v5
  clear v3 v5 h1 hv
  go_enter Try.func99, Try.ntmps99
  go_wp2_with fail
  rw [← hW0, ← hpb]
  have gp := lt_of_cell p0'
  clear hpb hW0
  obtain ⟨g, hg⟩ : ∃ g, s.lag = g := ⟨_, rfl⟩
  rw [hg] at v4 p1' ⊢
  have HG := hid hg
  have V2 := hid v2
  have V6 := hid v6
  clear hg v2 v6
  go_loopw [5, 6, 7, 8, 12] (fun v f _ _ i wr => ∃ (j : Nat) (fr : Int), j ≤ n ∧ i = .int .i64 j ∧ f = .int .i64 fr ∧ Hid (fr = freeN s.starts (highs s) g j) ∧ 0 ≤ fr ∧ fr ≤ 100060 + 60 * j ∧ wr.ownsRow W0.heap.size 3 1 v j (doneV s.starts (highs s) g j) ∧ Below W0.heap.size W0 wr) (fun _ _ _ _ i _ => n - (intOf i).toNat)
  case atStart => exact ⟨0, 0, Nat.zero_le _, rfl, rfl, hid rfl, by omega, by omega, World.ownsRow_nil _ _ _ _, Below.refl _ _⟩
  case round =>
    obtain ⟨j, fr, hj, rfl, rfl, HF, f1, f2, hown, hB⟩ := hrel
    by_cases hlt : j < n
    · have hlt' : (j : Int) < n := by omega
      obtain ⟨b1, off1, ea, c0⟩ := (hS.grown hB) j (by rw [H1.out]; exact hlt)
      obtain ⟨b2, off2, eb, d0, d1⟩ := (hN.grown hB) j (by rw [H5.out]; exact hlt)
      subst ea
      subst eb
      have p1 := cell_grown hB p1'
      have p2 := cell_grown hB p2'
      obtain ⟨x1, x2⟩ := V2.out j hlt
      obtain ⟨y1, y2, y3⟩ := V6.out j hlt
      have HD : Hid (highs s j = (s.needs.getD j (0, 0)).2) := hid rfl
      have HN : Hid (freeN s.starts (highs s) g (j + 1) = max (s.starts.getD j 0 + g) (freeN s.starts (highs s) g j) + highs s j) := hid rfl
      have hvs := doneV_succ s.starts (highs s) g j
      have HV := hid hvs
      clear hvs
      generalize s.starts.getD j 0 = x at c0 x1 x2 HN
      generalize (s.needs.getD j (0, 0)).1 = lo at d0 y1 y2 HD
      generalize (s.needs.getD j (0, 0)).2 = hi at d1 y2 y3 HD
      obtain ⟨mx, hmx⟩ : ∃ m, (if x + g < fr then fr else x + g) = m := ⟨_, rfl⟩
      have hmm : max (x + g) fr = mx := by rw [← hmx]; split <;> omega
      have m1 : 0 ≤ mx := by omega
      have m2 : mx ≤ 100060 + 60 * j := by omega
      have HM := hid hmm
      clear hmm
      have gc := lt_of_cell c0
      have gd := lt_of_cell d0
      have gw := lt_of_cell p1
      obtain ⟨va, vc, rfl⟩ := owns_shape hown
      go_wp2_with fail
      have o1 : ∀ p : Over wr, p.w.cell? ⟨pb, 1, none⟩ = some (.int .i64 g) := fun p => p.cell p1
      have o2 : ∀ p : Over wr, p.w.cell? ⟨pb, 2, none⟩ = some (.slice (some ⟨b2, off2, none⟩) n mc) := fun p => p.cell p2
      have o3 : ∀ p : Over wr, p.w.cell? ⟨b2, off2 + j * 2, none⟩ = some (.int .i64 lo) := fun p => p.cell d0
      have o4 : ∀ p : Over wr, p.w.cell? ⟨b2, off2 + j * 2 + 1, none⟩ = some (.int .i64 hi) := fun p => p.cell d1
      have hend : ∀ p : Over wr, _ := fun p => end101 lo hi p.w
      refine wp_region_over wr (Below.refl _ _) (by kernel_rfl) (by kernel_rfl) ?_
      repeat (go_big_quiet_step (first | (go_at_call 101; exact Calls.over_of (hend _))))
      refine wpQuiet_nil ?_
      intro wz hw'
      clear hmx
      have hbz := over_below hw'
      clear hw' o1 o2 o3 o4 hend
      have hown2 := book_owns hown (grown_none hbz) (fun r e => by cases e)
      go_wp2_with (at_builtin; refine wpList_append_own_at _ rfl _ _ 41 rfl W0.heap.size 3 i0 (.int .i64 0) 1 8 Try.underlying41 hi0 hz0 hz1 hz2 rfl (by decide) _ _ _ rfl (hown2.alloc _) ⟨wz.heap.size, 0, none⟩ 1 1 [.int .i64 (mx + hi)] rfl rfl (cell_one_new _ _ _) (by simp [Value.oneCell']) (by unfold maxLen; omega) (by omega) (by have := hbz.size; have := hB.size; simp; omega) ?_; intro v' w5 hown' hgrow hnil hloc; have hb5 : Below W0.heap.size wz w5 := (((Below.refl W0.heap.size wz).alloc (by have := hbz.size; have := hB.size; omega) _).grown hgrow (by have := hbz.size; have := hB.size; simp; omega) (fun r e => (hown2.lt r e).1)))
      go_roundw
      case rel => exact ⟨j + 1, mx + hi, by omega, by go_num, by go_num, hid (by rw [HN.out, ← HF.out, HD.out, HM.out]), by omega, by omega, by rw [HV.out, HN.out, ← HF.out, HD.out, HM.out]; exact hown', (hB.trans (hbz.mono hB.size)).trans hb5⟩
      case measure => simp [intOf]; omega
    · have hjn : j = n := by omega
      subst hjn
      obtain ⟨va, vc, rfl⟩ := owns_shape hown
      have hin := ints_of_owns (L := doneN s.starts (highs s) g j) (a := va) (cap := vc) (W := wr) (e := 3) (base := W0.heap.size) (by rw [doneN_length]; exact hown)
      go_wp2_with fail
      go_ret
      exact ⟨va, vc, rfl, by rw [HG.out]; exact hin, hB0.trans (hB.mono hB0.size)⟩

end Go.Proofs.Ytohahlnhbppnhaa
