/- Tongue: does the interpreter keep up? -/
import Derived.Test.YtohahlnhbppnhaaZ
namespace Go.Proofs.Ytohahlnhbppnhaa
open Go.RowKit
set_option linter.unusedSimpArgs false
set_option linter.unusedVariables false

/-- Is the interpreter behind at most so far, with this sentence? -/
def keepAt (S : List Int) (T : List (Int × Int)) (n : Nat) (most : Int) (i : Nat) : Bool := decide ((T.getD i (0, 0)).2 ≤ S.getD (min (i + 1) (n - 1)) 0 + most)

def keepsM (S : List Int) (T : List (Int × Int)) (n : Nat) (most : Int) : Bool := (List.range n).all (keepAt S T n most)

theorem keeps_true {S : List Int} {T : List (Int × Int)} {n : Nat} {most : Int} (h : ∀ i, i < n → keepAt S T n most i = true) : keepsM S T n most = true := by
  unfold keepsM
  rw [List.all_eq_true]
  exact fun i hi => h i (List.mem_range.1 hi)

theorem keeps_false {S : List Int} {T : List (Int × Int)} {n : Nat} {most : Int} {i : Nat} (hi : i < n) (h : keepAt S T n most i = false) : keepsM S T n most = false := by
  cases hv : keepsM S T n most
  · rfl
  · unfold keepsM at hv
    rw [List.all_eq_true] at hv
    rw [hv i (List.mem_range.2 hi)] at h
    cases h

set_option maxRecDepth 100000 in
set_option maxHeartbeats 1000000 in
theorem keeps_any (S : List Int) (T : List (Int × Int)) (g most : Int) (n m nc mc tc : Nat) (sa na ta : Option Addr) (w : World) (hl : S.length = n) (ht : T.length = n) (hn : n ≤ 20) (hv : ∀ i, i < n → 0 ≤ S.getD i 0 ∧ S.getD i 0 ≤ 100000) (h0 : 0 ≤ most ∧ most ≤ 100000) (hS : IntsAt w sa S) (hT : PairsAt w ta T) :
    Calls Try.prog 71 #[.agg #[.slice sa n nc, .int .i64 g, .slice na m mc], .slice ta n tc, .int .i64 most] w fun e w' => e = .returned (.bool (keepsM S T n most)) ∧ Below w.heap.size w w' := by
  have hb0 := below_alloc w (.cells #[.slice sa n nc, .int .i64 g, .slice na m mc] 78)
  have p0 : (w.alloc (.cells #[.slice sa n nc, .int .i64 g, .slice na m mc] 78)).cell? ⟨w.heap.size, 0, none⟩ = some (.slice sa n nc) := by simp [go_sem]
  have HL := hid hl
  have HT := hid ht
  clear hl ht
  generalize hpb : w.heap.size = pb at p0
  generalize hW0 : w.alloc (.cells #[.slice sa n nc, .int .i64 g, .slice na m mc] 78) = W0 at p0 hb0
  have gp := lt_of_cell p0
  go_enter Try.func71, Try.ntmps71
  go_wp2_with fail
  have HPB := hid hpb
  clear hW0 hpb
  go_loopw [7, 8, 9, 12] (fun _ _ _ i wr => ∃ j : Nat, j ≤ n ∧ i = .int .i64 j ∧ Hid (∀ i, i < j → keepAt S T n most i = true) ∧ Below W0.heap.size W0 wr) (fun _ _ _ i _ => n - (intOf i).toNat)
  case atStart => exact ⟨0, Nat.zero_le _, rfl, hid (fun i hi => by omega), Below.refl _ _⟩
  case round =>
    obtain ⟨j, hj, rfl, HK, hB⟩ := hrel
    by_cases hlt : j < n
    · have hlt' : (j : Int) < n := by omega
      obtain ⟨b2, off2, eb, c1, c2⟩ := hT j (by rw [HT.out]; exact hlt)
      subst eb
      replace c1 := cell_grown hB (cell_grown hb0 c1)
      replace c2 := cell_grown hB (cell_grown hb0 c2)
      have q0 := cell_grown hB p0
      have gq := lt_of_cell q0
      have gT := lt_of_cell c1
      by_cases hlast : j + 1 < n
      · have hle : ¬ ((n : Int) - 1 < (j : Int) + 1) := by omega
        have hqs : ((j : Int) + 1).toNat = j + 1 := by omega
        have hmin : min (j + 1) (n - 1) = j + 1 := by omega
        obtain ⟨b1, off1, ea, cS⟩ := hS (j + 1) (by rw [HL.out]; omega)
        subst ea
        have hx := hv (j + 1) (by omega)
        have HK1 : Hid (keepAt S T n most j = decide ((T.getD j (0, 0)).2 ≤ S.getD (j + 1) 0 + most)) := hid (by unfold keepAt; rw [hmin])
        clear hmin
        replace cS := cell_grown hB (cell_grown hb0 cS)
        have gS := lt_of_cell cS
        generalize S.getD (j + 1) 0 = x at cS hx HK1
        generalize (T.getD j (0, 0)).1 = lo at c1
        generalize (T.getD j (0, 0)).2 = hi at c2 HK1
        by_cases hgt : hi ≤ x + most
        · have HR : Hid (keepAt S T n most j = true) := hid (by rw [HK1.out]; simp [hgt])
          have hgt' : ¬ (x + most < hi) := by omega
          clear hgt
          go_wp2_with fail
          go_roundw
          case rel => exact ⟨j + 1, by omega, by go_num, hid (fun i hi => by
            by_cases e : i = j
            · subst e; exact HR.out
            · exact HK.out i (by omega)), below_then hB (below_alloc _ _)⟩
          case measure => simp [intOf]; omega
        · have hf : keepsM S T n most = false := keeps_false (i := j) hlt (by rw [HK1.out]; simp [hgt])
          have HF := hid hf
          have hgt' : x + most < hi := by omega
          clear hgt hf
          go_wp2_with fail
          go_ret
          exact ⟨by rw [HF.out]; rfl, by rw [← HPB.out]; exact below_then (below_then hb0 hB) (below_alloc _ _)⟩
      · have hle : (n : Int) - 1 < (j : Int) + 1 := by omega
        have hqs : ((n : Int) - 1).toNat = j := by omega
        have hql : (0 : Int) ≤ (n : Int) - 1 := by omega
        have hqn : (n : Int) - 1 < n := by omega
        have hmin : min (j + 1) (n - 1) = j := by omega
        obtain ⟨b1, off1, ea, cS⟩ := hS (j) (by rw [HL.out]; omega)
        subst ea
        have hx := hv (j) (by omega)
        have HK1 : Hid (keepAt S T n most j = decide ((T.getD j (0, 0)).2 ≤ S.getD (j) 0 + most)) := hid (by unfold keepAt; rw [hmin])
        clear hmin
        replace cS := cell_grown hB (cell_grown hb0 cS)
        have gS := lt_of_cell cS
        generalize S.getD (j) 0 = x at cS hx HK1
        generalize (T.getD j (0, 0)).1 = lo at c1
        generalize (T.getD j (0, 0)).2 = hi at c2 HK1
        by_cases hgt : hi ≤ x + most
        · have HR : Hid (keepAt S T n most j = true) := hid (by rw [HK1.out]; simp [hgt])
          have hgt' : ¬ (x + most < hi) := by omega
          clear hgt
          go_wp2_with fail
          go_roundw
          case rel => exact ⟨j + 1, by omega, by go_num, hid (fun i hi => by
            by_cases e : i = j
            · subst e; exact HR.out
            · exact HK.out i (by omega)), below_then hB (below_alloc _ _)⟩
          case measure => simp [intOf]; omega
        · have hf : keepsM S T n most = false := keeps_false (i := j) hlt (by rw [HK1.out]; simp [hgt])
          have HF := hid hf
          have hgt' : x + most < hi := by omega
          clear hgt hf
          go_wp2_with fail
          go_ret
          exact ⟨by rw [HF.out]; rfl, by rw [← HPB.out]; exact below_then (below_then hb0 hB) (below_alloc _ _)⟩
    · have hjn : j = n := by omega
      subst hjn
      have hr : keepsM S T j most = true := keeps_true (fun i hi => HK.out i hi)
      have HR := hid hr
      clear hr
      go_wp2_with fail
      go_ret
      exact ⟨by rw [HR.out]; rfl, by rw [← HPB.out]; exact below_then hb0 hB⟩

def BehindPost (s : Spoken) (most : Int) (n : Nat) (w : World) (e : Ending) (w' : World) : Prop :=
  Below w.heap.size w w' ∧ ((valP s = false ∧ e = .returned (.tuple #[.slice none 0 0, .bool false, .int .i64 1])) ∨
    (valP s = true ∧ inB most 0 100000 = false ∧ e = .returned (.tuple #[.slice none 0 0, .bool false, .int .i64 2])) ∨
    (valP s = true ∧ inB most 0 100000 = true ∧ ∃ a cap, e = .returned (.tuple #[.slice a n cap, .bool (keepsM s.starts (timesN s n) n most), .int .i64 0]) ∧ PairsAt w' a (timesN s n)))

set_option maxRecDepth 100000 in
set_option maxHeartbeats 1000000 in
theorem behindOf_any (s : Spoken) (most : Int) (n m nc mc : Nat) (sa na : Option Addr) (w : World) (h1 : s.starts.length = n) (h2 : s.needs.length = m) (hn : n ≤ 1000000) (hm : m ≤ 1000000) (hS : IntsAt w sa s.starts) (hN : PairsAt w na s.needs) :
    Calls Try.prog 38 #[.agg #[.slice sa n nc, .int .i64 s.lag, .slice na m mc], .int .i64 most] w (BehindPost s most n w) := by
  have hb0 := below_alloc w (.cells #[.slice sa n nc, .int .i64 s.lag, .slice na m mc] 78)
  have hp : ∀ W, Below w.heap.size w W → _ := fun W hb => valP_any s n nc m mc sa na W h1 h2 hn hm (hS.grown hb) (hN.grown hb)
  have hw := fun W => within_any most 0 100000 W
  have p0 : (w.alloc (.cells #[.slice sa n nc, .int .i64 s.lag, .slice na m mc] 78)).cell? ⟨w.heap.size, 0, none⟩ = some (.slice sa n nc) := by simp [go_sem]
  have p1 : (w.alloc (.cells #[.slice sa n nc, .int .i64 s.lag, .slice na m mc] 78)).cell? ⟨w.heap.size, 1, none⟩ = some (.int .i64 s.lag) := by simp [go_sem]
  have p2 : (w.alloc (.cells #[.slice sa n nc, .int .i64 s.lag, .slice na m mc] 78)).cell? ⟨w.heap.size, 2, none⟩ = some (.slice na m mc) := by simp [go_sem]
  have gp := lt_of_cell p0
  unfold BehindPost
  cases hv : valP s
  · rw [hv] at hp
    go_enter Try.func38, Try.ntmps38
    go_wp2_with (go_at_call 68; refine (hp _ hb0).mono ?_; rintro e w1 ⟨rfl, hb1⟩)
    exact bodyPost_ret (v := .tuple #[.slice none 0 0, .bool false, .int .i64 1]) (by simp [results, Try.f38, go_sem]) rfl ⟨below_then hb0 hb1, .inl ⟨by trivial, rfl⟩⟩
  · have hmn : m = n := by have := (valP_parts hv).2.2.2.2.1; omega
    subst hmn
    rw [hv] at hp
    cases hi : inB most 0 100000
    · rw [hi] at hw
      clear hi
      go_enter Try.func38, Try.ntmps38
      go_wp2_with (first | (go_at_call 68; refine (hp _ hb0).mono ?_; rintro e w1 ⟨rfl, hb1⟩) | (go_at_call 69; refine (hw _).mono ?_; rintro e w' ⟨rfl, rfl⟩))
      exact bodyPost_ret (v := .tuple #[.slice none 0 0, .bool false, .int .i64 2]) (by simp [results, Try.f38, go_sem]) rfl ⟨below_then hb0 hb1, .inr (.inl ⟨by trivial, by trivial, rfl⟩)⟩
    · rw [hi] at hw
      have hi' : 0 ≤ most ∧ most ≤ 100000 := by simpa only [inB, decide_eq_true_eq] using hi
      obtain ⟨v1, v2, -, -, -, -⟩ := valP_parts hv
      rw [h1] at v1 v2
      have ht : ∀ W, Below w.heap.size w W → _ := fun W hb => times_any s hv m nc mc sa na W h1 (hS.grown hb) (hN.grown hb)
      have hk : ∀ W ta tc, Below w.heap.size w W → PairsAt W ta (timesN s m) → _ := fun W ta tc hb hT => keeps_any s.starts (timesN s m) s.lag most m m nc mc tc sa na ta W h1 (timesN_length s m) v1 v2 hi' (hS.grown hb) hT
      clear hS hN h1 h2 v1 v2 hi
      generalize keepsM s.starts (timesN s m) m most = kk at hk ⊢
      generalize timesN s m = T at ht hk ⊢
      generalize s.lag = g at *
      go_enter Try.func38, Try.ntmps38
      go_wp2_with (first | (go_at_call 68; refine (hp _ hb0).mono ?_; rintro e w1 ⟨rfl, hb1⟩; replace p0 := cell_grown hb1 p0; replace p1 := cell_grown hb1 p1; replace p2 := cell_grown hb1 p2; replace gp := lt_of_cell p0; have hbA := below_then hb0 hb1) | (go_at_call 69; refine (hw _).mono ?_; rintro e w' ⟨rfl, rfl⟩) | (go_at_call 70; refine (ht _ hbA).mono ?_; rintro e w2 ⟨ta, tc, rfl, hT, hb2⟩; replace p0 := cell_grown hb2 p0; replace p1 := cell_grown hb2 p1; replace p2 := cell_grown hb2 p2; replace gp := lt_of_cell p0; have hbB := below_then hbA hb2) | (go_at_call 71; refine (hk _ ta tc hbB hT).mono ?_; rintro e w3 ⟨rfl, hb3⟩))
      exact bodyPost_ret (v := .tuple #[.slice ta m tc, .bool kk, .int .i64 0]) (by simp [results, Try.f38, go_sem]) rfl ⟨below_then hbB hb3, .inr (.inr ⟨by trivial, by trivial, ta, tc, rfl, hT.grown hb3⟩)⟩

end Go.Proofs.Ytohahlnhbppnhaa
