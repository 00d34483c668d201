/- Tongue, the reference: which steps are a match. Tongue, the reference: which steps are a match, walked. Tongue, the laws: the error of a match; the report that counts, in numbers. -/
import Derived.Test.YtohahlnhbppnhaaBA
import Derived.BigQuiet
import Derived.Deep.CutBlock
import Derived.Test.YtohahlnhbppnhaaBK
namespace Go.Proofs.Ytohahlnhbppnhaa
open Go.RowKit
set_option linter.unusedSimpArgs false
set_option linter.unusedVariables false

/-- Is a step one of the kinds? -/
def kindOk (s : Int × Int) : Bool := decide (s ∈ kindsI)

/-- Sums of steps. -/
def sumL (l : List (Int × Int)) : Int := (l.map Prod.fst).sum
def sumR (l : List (Int × Int)) : Int := (l.map Prod.snd).sum

/-- Are steps a match, by their kinds and sums? -/
def isM (nl nr : Nat) (l : List (Int × Int)) : Bool := l.all kindOk && (decide (sumL l = nl) && decide (sumR l = nr))

theorem kind_at {s : Int × Int} (h : kindOk s = true) : ∃ at_, at_ < 5 ∧ kindsI.getD at_ (0, 0) = s := by
  unfold kindOk at h
  rw [decide_eq_true_eq] at h
  unfold kindsI at h ⊢
  simp only [List.mem_cons, List.not_mem_nil, or_false] at h
  rcases h with rfl | rfl | rfl | rfl | rfl
  · exact ⟨0, by decide, rfl⟩
  · exact ⟨1, by decide, rfl⟩
  · exact ⟨2, by decide, rfl⟩
  · exact ⟨3, by decide, rfl⟩
  · exact ⟨4, by decide, rfl⟩

theorem kind_bd {s : Int × Int} (h : kindOk s = true) : 0 ≤ s.1 ∧ s.1 ≤ 2 ∧ 0 ≤ s.2 ∧ s.2 ≤ 2 := by
  obtain ⟨a, ha, rfl⟩ := kind_at h
  have := kinds_bd a ha
  omega

theorem sums_pos {l : List (Int × Int)} (h : l.all kindOk = true) : 0 ≤ sumL l ∧ 0 ≤ sumR l := by
  induction l with
  | nil => exact ⟨Int.le_refl _, Int.le_refl _⟩
  | cons s l ih =>
    rw [List.all_cons, Bool.and_eq_true] at h
    have h1 := kind_bd h.1
    have h2 := ih h.2
    have e1 : sumL (s :: l) = s.1 + sumL l := rfl
    have e2 : sumR (s :: l) = s.2 + sumR l := rfl
    omega

theorem go_of_kinds (nl nr : Nat) (l : List (Int × Int)) : ∀ i k : Nat, l.all kindOk = true → (i : Int) + sumL l = nl → (k : Int) + sumR l = nr → ∃ ms, goM nl nr l i k = some (ms, nl, nr) := by
  induction l with
  | nil =>
    intro i k _ h1 h2
    have e1 : sumL [] = 0 := rfl
    have e2 : sumR [] = 0 := rfl
    rw [e1] at h1
    rw [e2] at h2
    have : i = nl := by omega
    have : k = nr := by omega
    subst i k
    exact ⟨[], rfl⟩
  | cons s l ih =>
    intro i k h h1 h2
    rw [List.all_cons, Bool.and_eq_true] at h
    have hp := sums_pos h.2
    have hb := kind_bd h.1
    have e1 : sumL (s :: l) = s.1 + sumL l := rfl
    have e2 : sumR (s :: l) = s.2 + sumR l := rfl
    rw [e1] at h1
    rw [e2] at h2
    obtain ⟨a, ha, hs⟩ := kind_at h.1
    have htk := take_kind (nl := nl) (nr := nr) (i := i) (k := k) ha (by rw [hs]; omega) (by rw [hs]; omega)
    rw [hs] at htk
    obtain ⟨ms, hms⟩ := ih (i + s.1.toNat) (k + s.2.toNat) h.2 (by omega) (by omega)
    refine ⟨(i, k, s.1.toNat, s.2.toNat) :: ms, ?_⟩
    unfold goM
    simp only [htk, hms, Option.map_some]

theorem kinds_of_go (nl nr : Nat) (l : List (Int × Int)) : ∀ (i k : Nat) (ms : List (Nat × Nat × Nat × Nat)) (a c : Nat), goM nl nr l i k = some (ms, a, c) → l.all kindOk = true ∧ (i : Int) + sumL l = a ∧ (k : Int) + sumR l = c := by
  induction l with
  | nil =>
    intro i k ms a c h
    simp only [goM, Option.some.injEq, Prod.mk.injEq] at h
    obtain ⟨rfl, rfl, rfl⟩ := h
    exact ⟨rfl, by show (i : Int) + 0 = i; omega, by show (k : Int) + 0 = k; omega⟩
  | cons s l ih =>
    intro i k ms a c h
    simp only [goM] at h
    cases hx : takeM nl nr i k s.1 s.2 with
    | none => rw [hx] at h; cases h
    | some t =>
      rw [hx] at h
      simp only at h
      obtain ⟨hm, e1, e2⟩ := take_mem hx
      cases hg : goM nl nr l (i + t.1) (k + t.2) with
      | none => rw [hg] at h; cases h
      | some r =>
        rw [hg] at h
        obtain ⟨ms', a', c'⟩ := r
        simp only [Option.map_some, Option.some.injEq, Prod.mk.injEq] at h
        obtain ⟨rfl, rfl, rfl⟩ := h
        obtain ⟨h1, h2, h3⟩ := ih _ _ _ _ _ hg
        have hk : t ∈ kinds := by unfold movesM at hm; exact (List.mem_filter.1 hm).1
        have hko : kindOk s = true := by
          obtain ⟨s1, s2⟩ := s
          obtain ⟨t1, t2⟩ := t
          simp only at e1 e2
          unfold kinds at hk
          simp only [List.mem_cons, List.not_mem_nil, or_false, Prod.mk.injEq] at hk
          unfold kindOk kindsI
          rw [decide_eq_true_eq]
          simp only [List.mem_cons, List.not_mem_nil, or_false, Prod.mk.injEq]
          omega
        have d1 : sumL (s :: l) = s.1 + sumL l := rfl
        have d2 : sumR (s :: l) = s.2 + sumR l := rfl
        refine ⟨by rw [List.all_cons, hko, h1]; rfl, by omega, by omega⟩

theorem isM_match (nl nr : Nat) (l : List (Int × Int)) : isM nl nr l = (matchM nl nr l).isSome := by
  cases h : isM nl nr l with
  | true =>
    unfold isM at h
    simp only [Bool.and_eq_true, decide_eq_true_eq] at h
    obtain ⟨ms, hg⟩ := go_of_kinds nl nr l 0 0 h.1 (by omega) (by omega)
    unfold matchM
    rw [hg]
    simp
  | false =>
    cases hm : matchM nl nr l with
    | none => rfl
    | some ms =>
      obtain ⟨h1, h2, h3⟩ := kinds_of_go nl nr l 0 0 ms nl nr (match_parts hm)
      unfold isM at h
      rw [h1] at h
      simp only [Bool.true_and, Bool.and_eq_false_iff, decide_eq_false_iff_not] at h
      omega

end Go.Proofs.Ytohahlnhbppnhaa

namespace Go.Proofs.Ytohahlnhbppnhaa
open Go.RowKit
set_option linter.unusedSimpArgs false
set_option linter.unusedVariables false

theorem step37_eql (x1 x2 y1 y2 : Int) (w : World) : (binOp .eql 37 (.agg #[.int .i64 x1, .int .i64 x2]) (.agg #[.int .i64 y1, .int .i64 y2])).run Try.prog w = .ok (.bool (decide (x1 = y1 ∧ x2 = y2))) w := by
  have u3 := Try.underlying3
  have a3 := Try.isAgg3
  have z3 := Try.sizeOf3
  have hS : Try.prog.underlying 37 = some (.struct (Try.prog.fieldsOf 37)) := by kernel_rfl
  have hp : Try.prog.stoodInHeld 37 = false := by kernel_rfl
  rw [run_eql_struct, show (10000 : Nat) = 9999 + 1 from rfl, run_equalIn_agg w 9999 37 _ _ hS hp]
  simp only [Program.fieldsOf, Try.underlying37]
  go_simp
  by_cases h1 : x1 = y1 <;> by_cases h2 : x2 = y2 <;> simp [h1, h2]

theorem Try.guard37 : Try.prog.eqGuardType Try.prog.depth 37 = false := by kernel_rfl

theorem kinds_take (m : Nat) (hm : m < 5) (s : Int × Int) : decide (s ∈ kindsI.take (m + 1)) = (decide (s ∈ kindsI.take m) || decide (s.1 = (kindsI.getD m (0, 0)).1 ∧ s.2 = (kindsI.getD m (0, 0)).2)) := by
  have e : kindsI.take (m + 1) = kindsI.take m ++ [kindsI.getD m (0, 0)] := by
    rw [List.take_add_one, List.getElem?_eq_getElem (by show m < 5; exact hm), List.getD_eq_getElem?_getD, List.getElem?_eq_getElem (by show m < 5; exact hm)]
    rfl
  rw [e]
  obtain ⟨s1, s2⟩ := s
  generalize kindsI.getD m (0, 0) = q
  obtain ⟨q1, q2⟩ := q
  simp only [List.mem_append, List.mem_singleton, Prod.mk.injEq]
  by_cases h1 : (s1, s2) ∈ kindsI.take m <;> by_cases h2 : s1 = q1 ∧ s2 = q2 <;> simp [h1, h2]

theorem sum_take (l : List (Int × Int)) (j : Nat) (hj : j < l.length) : sumL (l.take (j + 1)) = sumL (l.take j) + (l.getD j (0, 0)).1 ∧ sumR (l.take (j + 1)) = sumR (l.take j) + (l.getD j (0, 0)).2 := by
  rw [take_pairs l j hj]
  unfold sumL sumR
  rw [List.map_append, List.sum_append, List.map_append, List.sum_append]
  simp

theorem all_take (l : List (Int × Int)) (j : Nat) (hj : j < l.length) : (l.take (j + 1)).all kindOk = ((l.take j).all kindOk && kindOk (l.getD j (0, 0))) := by
  rw [take_pairs l j hj, List.all_append]
  simp

theorem isM_false {nl nr : Nat} {l : List (Int × Int)} {j : Nat} (hj : j < l.length) (h : kindOk (l.getD j (0, 0)) = false) : isM nl nr l = false := by
  have : l.all kindOk = false := by
    cases hv : l.all kindOk
    · rfl
    · rw [List.all_eq_true] at hv
      rw [hv (l.getD j (0, 0)) (by rw [List.getD_eq_getElem?_getD, List.getElem?_eq_getElem hj]; exact List.getElem_mem _)] at h
      cases h
  unfold isM
  rw [this]
  rfl

set_option maxRecDepth 100000 in
set_option maxHeartbeats 1000000 in
theorem isMatch_any (l : List (Int × Int)) (nl nc nr mc n sc : Nat) (la ra sa : Option Addr) (w : World) (hnl : nl ≤ 1000) (hnr : nr ≤ 1000) (hl : l.length = n) (hn : n ≤ 1000) (hP : PairsAt w sa l) :
    Calls Try.prog 62 #[.slice la nl nc, .slice ra nr mc, .slice sa n sc] w fun e w' => e = .returned (.bool (isM nl nr l)) ∧ Below w.heap.size w w' := by
  have hk2 : ∀ at_, at_ < 5 → ∀ W, Calls Try.prog 56 #[] W fun e w' => ∃ b, e = .returned (.slice (some ⟨b, 0, none⟩) 5 5) ∧ w'.cell? ⟨b, at_ * 2, none⟩ = some (.int .i64 (kindsI.getD at_ (0, 0)).1) ∧ w'.cell? ⟨b, at_ * 2 + 1, none⟩ = some (.int .i64 (kindsI.getD at_ (0, 0)).2) ∧ Below W.heap.size W w' := fun at_ h5 W => (kinds_any W).mono fun e w' h => by
    obtain ⟨b, rfl, hp, hb⟩ := h
    obtain ⟨b', off, eb, c0, c1⟩ := hp at_ h5
    cases eb
    rw [Nat.zero_add] at c0 c1
    exact ⟨b, rfl, c0, c1, hb⟩
  have HST : Hid (∀ j, j < n → sumL (l.take (j + 1)) = sumL (l.take j) + (l.getD j (0, 0)).1 ∧ sumR (l.take (j + 1)) = sumR (l.take j) + (l.getD j (0, 0)).2) := hid (fun j hj => sum_take l j (by omega))
  have HAL : Hid (∀ j, j < n → (l.take (j + 1)).all kindOk = ((l.take j).all kindOk && kindOk (l.getD j (0, 0)))) := hid (fun j hj => all_take l j (by omega))
  have HNO : Hid (∀ j, j < n → kindOk (l.getD j (0, 0)) = false → isM nl nr l = false) := hid (fun j hj h => isM_false (by omega) h)
  have HTK : Hid (l.take n = l) := hid (by rw [← hl, List.take_length])
  have HIS : Hid (isM nl nr l = (l.all kindOk && (decide (sumL l = nl) && decide (sumR l = nr)))) := hid rfl
  have HL := hid hl
  have u37 := Try.underlying37
  have g37 := Try.guard37
  clear hl
  go_enter Try.func62, Try.ntmps62
  go_wp2_with fail
  go_loopw [7, 8, 9, 10, 11] (fun iv kv jv _ _ wr => ∃ (j : Nat) (a c : Int), j ≤ n ∧ jv = .int .i64 j ∧ iv = .int .i64 a ∧ kv = .int .i64 c ∧ Hid (a = sumL (l.take j)) ∧ Hid (c = sumR (l.take j)) ∧ 0 ≤ a ∧ a ≤ 2 * j ∧ 0 ≤ c ∧ c ≤ 2 * j ∧ Hid ((l.take j).all kindOk = true) ∧ Below w.heap.size w wr) (fun _ _ jv _ _ _ => n - (intOf jv).toNat)
  case atStart => exact ⟨0, 0, 0, Nat.zero_le _, rfl, rfl, rfl, hid rfl, hid rfl, by omega, by omega, by omega, by omega, hid rfl, Below.refl _ _⟩
  case round =>
    obtain ⟨j, a, c, hj, rfl, rfl, rfl, HA, HC, a1, a2, c1', c2', HK, hB⟩ := hrel
    by_cases hlt : j < n
    · have hlt' : (j : Int) < n := by omega
      have hj0 : (0 : Int) ≤ (j : Int) := by omega
      obtain ⟨b1, o1, es, s1, s2⟩ := (hP.grown hB) j (by rw [HL.out]; exact hlt)
      subst es
      have hst := HST.out j hlt
      have hal := HAL.out j hlt
      have hno := HNO.out j hlt
      obtain ⟨s, hs⟩ : ∃ s, l.getD j (0, 0) = s := ⟨_, rfl⟩
      rw [hs] at s1 s2 hst hal hno
      obtain ⟨x, y⟩ := s
      simp only at s1 s2 hst
      have gs := lt_of_cell s1
      have HSS := hid hst
      have HALL := hid hal
      have HNN := hid hno
      clear hst hal hno hs
      go_upto_block 2 with fail
      go_cut [10] from 11 to 33 (fun v wx => v = .bool (kindOk (x, y)) ∧ Below wr.heap.size wr wx)
      case first =>
        go_wp2_with fail
        go_loopw [10, 11] (fun v mv wx => ∃ (m : Nat) (b : Bool), m ≤ 5 ∧ mv = .int .i64 m ∧ v = .bool b ∧ Hid (b = decide ((x, y) ∈ kindsI.take m)) ∧ Below wr.heap.size wr wx) (fun _ mv _ => 5 - (intOf mv).toNat)
        case atStart => exact ⟨0, false, by omega, rfl, rfl, hid rfl, Below.refl _ _⟩
        case round =>
          obtain ⟨m, b, hm, rfl, rfl, HB, hbx⟩ := hrel
          by_cases h5 : m < 5
          · have h5' : (m : Int) < 5 := by omega
            have hm0 : (0 : Int) ≤ (m : Int) := by omega
            have hkt := kinds_take m h5 (x, y)
            obtain ⟨k1, hk1⟩ : ∃ q, (kindsI.getD m (0, 0)).1 = q := ⟨_, rfl⟩
            obtain ⟨k2, hk2'⟩ : ∃ q, (kindsI.getD m (0, 0)).2 = q := ⟨_, rfl⟩
            rw [hk1, hk2', ← HB.out] at hkt
            have HKT := hid hkt
            clear hkt
            cases b with
            | true =>
              go_upto_region 9 with fail
              refine wp_region_over wr (Below.refl _ _) (by kernel_rfl) (by kernel_rfl) ?_
              repeat (go_big_quiet_step (fail))
              refine wpQuiet_nil ?_
              intro wv hw'
              have hbv := over_below hw'
              clear hw'
              go_wp2_with fail
              go_roundw
              case rel => exact ⟨m + 1, true, by omega, by go_num, rfl, hid (by rw [HKT.out]; rfl), below_then hbx hbv⟩
              case measure => simp [intOf]; omega
            | false =>
              go_upto_region 9 with fail
              obtain ⟨dd, hdd⟩ : ∃ d, decide (x = k1 ∧ y = k2) = d := ⟨_, rfl⟩
              have heq : ∀ W : World, (binOp .eql 37 (.agg #[.int .i64 x, .int .i64 y]) (.agg #[.int .i64 k1, .int .i64 k2])).run Try.prog W = .ok (.bool dd) W := fun W => by rw [← hdd]; exact step37_eql x y k1 k2 W
              have HD : Hid (dd = decide (x = k1 ∧ y = k2)) := hid hdd.symm
              clear hdd
              refine wp_region_held_drew (S := (fun w' : World => w'.cell? ⟨b1, o1 + j * 2, none⟩ = some (.int .i64 x) ∧ w'.cell? ⟨b1, o1 + j * 2 + 1, none⟩ = some (.int .i64 y))) (by kernel_rfl) ?_ (fun hHeld => ?_)
              · exact ⟨cell_grown hbx.drew s1, cell_grown hbx.drew s2⟩
              refine wpAnyH_take (i := 0) (oi := _) (v := ?_) rfl (by kernel_rfl) (by kernel_rfl) (by kernel_rfl) (fun _ _ _ h => h) (Or.inl ⟨by rfl, ?_⟩) (by assumption) ?_
              rotate_left 1
              · intro w hSw
                (try dsimp only at hSw)
                go_simp
                all_goals (with_reducible rfl)
              try simp only [Act.put, List.setIfInBounds_toArray, List.set_cons_zero, List.set_cons_succ]
              refine wpAnyH_take (i := 1) (oi := _) (v := ?_) rfl (by kernel_rfl) (by kernel_rfl) (by kernel_rfl) (fun _ _ _ h => h) (Or.inl ⟨by rfl, ?_⟩) (by assumption) ?_
              rotate_left 1
              · intro w hSw
                (try dsimp only at hSw)
                go_simp
                all_goals (with_reducible rfl)
              try simp only [Act.put, List.setIfInBounds_toArray, List.set_cons_zero, List.set_cons_succ]
              refine wpAnyH_take (i := 2) (oi := _) (v := ?_) rfl (by kernel_rfl) (by kernel_rfl) (by kernel_rfl) (fun _ _ _ h => h) (Or.inl ⟨by rfl, ?_⟩) (by assumption) ?_
              rotate_left 1
              · intro w hSw
                (try dsimp only at hSw)
                go_simp
                all_goals (with_reducible rfl)
              try simp only [Act.put, List.setIfInBounds_toArray, List.set_cons_zero, List.set_cons_succ]
              refine wpAnyH_take (i := 3) (oi := _) (v := ?_) rfl (by kernel_rfl) (by kernel_rfl) (by kernel_rfl) (fun _ _ _ h => h) (Or.inl ⟨by rfl, ?_⟩) (by assumption) ?_
              rotate_left 1
              · intro w hSw
                (try dsimp only at hSw)
                go_simp
                all_goals (with_reducible rfl)
              try simp only [Act.put, List.setIfInBounds_toArray, List.set_cons_zero, List.set_cons_succ]
              refine wpAnyH_take (i := 4) (oi := _) (v := ?_) rfl (by kernel_rfl) (by kernel_rfl) (by kernel_rfl) (fun _ _ _ h => h) (Or.inl ⟨by rfl, ?_⟩) (by assumption) ?_
              rotate_left 1
              · intro w hSw
                (try dsimp only at hSw)
                go_simp
                all_goals (with_reducible rfl)
              try simp only [Act.put, List.setIfInBounds_toArray, List.set_cons_zero, List.set_cons_succ]
              refine wpAnyH_take (i := 5) (oi := _) (v := ?_) rfl (by kernel_rfl) (by kernel_rfl) (by kernel_rfl) (fun _ _ _ h => h) (Or.inl ⟨by rfl, ?_⟩) (by assumption) ?_
              rotate_left 1
              · intro w hSw
                (try dsimp only at hSw)
                go_simp
                all_goals (with_reducible rfl)
              try simp only [Act.put, List.setIfInBounds_toArray, List.set_cons_zero, List.set_cons_succ]
              refine wpAnyH_take (i := 7) (oi := _) (v := ?_) rfl (by kernel_rfl) (by kernel_rfl) (by kernel_rfl) (fun _ _ _ h => h) (Or.inl ⟨by rfl, ?_⟩) (by assumption) ?_
              rotate_left 1
              · intro w hSw
                (try dsimp only at hSw)
                go_simp
                all_goals (with_reducible rfl)
              try simp only [Act.put, List.setIfInBounds_toArray, List.set_cons_zero, List.set_cons_succ]
              refine wpAnyH_ready (rs := [6]) (by kernel_rfl) (by simp) ?_
              refine AllReadyH.cons (o := _) rfl (fun K hK => ?_) ?_
              · go_simp
                go_at_call 56
                refine (hk2 m h5 _).mono ?_
                rintro e wq ⟨kb, rfl, d0, d1, hq⟩
                rw [hk1] at d0
                rw [hk2'] at d1
                have gk := lt_of_cell d0
                have hbQ := below_then hbx.drew hq
                try dsimp only
                refine hK.out _ _ ?_ (fun hHeld => ?_)
                · exact ⟨cell_grown hbQ s1, cell_grown hbQ s2⟩
                clear hK K
                try simp only [Act.put, List.setIfInBounds_toArray, List.set_cons_zero, List.set_cons_succ]
                refine wpAnyH_take (i := 8) (oi := _) (v := ?_) rfl (by kernel_rfl) (by kernel_rfl) (by kernel_rfl) (fun _ _ _ h => h) (Or.inl ⟨by rfl, ?_⟩) (by assumption) ?_
                rotate_left 1
                · intro w hSw
                  (try dsimp only at hSw)
                  go_simp
                  all_goals (with_reducible rfl)
                try simp only [Act.put, List.setIfInBounds_toArray, List.set_cons_zero, List.set_cons_succ]
                refine wpAnyH_ready (rs := [9]) (by kernel_rfl) (by simp) ?_
                refine AllReadyH.cons (o := _) rfl (fun K hK => ?_) ?_
                · go_simp
                  refine hK.out _ _ ?_ (fun hHeld => ?_)
                  · exact ⟨cell_grown hbQ s1, cell_grown hbQ s2⟩
                  clear hK K
                  try simp only [Act.put, List.setIfInBounds_toArray, List.set_cons_zero, List.set_cons_succ]
                  refine wpAnyH_ready (rs := [10]) (by kernel_rfl) (by simp) ?_
                  refine AllReadyH.cons (o := _) rfl (fun K hK => ?_) ?_
                  · go_simp
                    refine hK.out _ _ ?_ (fun hHeld => ?_)
                    · exact ⟨cell_grown hbQ s1, cell_grown hbQ s2⟩
                    clear hK K
                    try simp only [Act.put, List.setIfInBounds_toArray, List.set_cons_zero, List.set_cons_succ]
                    refine wpAnyH_take (i := 11) (oi := _) (v := ?_) rfl (by kernel_rfl) (by kernel_rfl) (by kernel_rfl) (fun _ _ _ h => h) (Or.inl ⟨by rfl, ?_⟩) (by assumption) ?_
                    rotate_left 1
                    · intro w hSw
                      (try dsimp only at hSw)
                      go_simp
                      all_goals (with_reducible rfl)
                    try simp only [Act.put, List.setIfInBounds_toArray, List.set_cons_zero, List.set_cons_succ]
                    refine wpAnyH_take (i := 12) (oi := _) (v := ?_) rfl (by kernel_rfl) (by kernel_rfl) (by kernel_rfl) (fun _ _ _ h => h) (Or.inl ⟨by rfl, ?_⟩) (by assumption) ?_
                    rotate_left 1
                    · intro w hSw
                      (try dsimp only at hSw)
                      go_simp
                      all_goals (with_reducible rfl)
                    try simp only [Act.put, List.setIfInBounds_toArray, List.set_cons_zero, List.set_cons_succ]
                    refine wpAnyH_done (by kernel_rfl) ?_ _
                    go_wp2_with fail
                    go_roundw
                    case rel => exact ⟨m + 1, dd, by omega, by go_num, rfl, hid (by rw [HKT.out, ← HD.out]; rfl), hbQ⟩
                    case measure => simp [intOf]; omega
                  exact AllReadyH.nil
                exact AllReadyH.nil
              exact AllReadyH.nil
          · have hm5 : m = 5 := by omega
            subst hm5
            have hbv : b = kindOk (x, y) := by rw [HB.out]; rfl
            subst hbv
            go_wp2_with fail
            go_meet
            exact ⟨rfl, hbx⟩
      case rest =>
        obtain ⟨rfl, hbx⟩ := hcut
        replace s1 := cell_grown hbx s1
        replace s2 := cell_grown hbx s2
        replace gs := lt_of_cell s1
        have hBc : Below w.heap.size w wc := below_then hB hbx
        cases hko : kindOk (x, y) with
        | false =>
          have hf := HNN.out hko
          have HF := hid hf
          clear hf
          go_wp2_with fail
          go_ret
          exact ⟨by rw [HF.out]; rfl, hBc⟩
        | true =>
          have hkb := kind_bd hko
          simp only at hkb
          have hk1 := HALL.out
          rw [HK.out, hko] at hk1
          have HKK := hid hk1
          have w1 : IntKind.i64.wrap (a + x) = a + x := by rw [IntKind.wrap_i64]; omega
          have w2 : IntKind.i64.wrap (c + y) = c + y := by rw [IntKind.wrap_i64]; omega
          clear hk1 hko
          go_upto_region 12 with fail
          have oa : ∀ p : Over wc, p.w.cell? ⟨b1, o1 + j * 2, none⟩ = some (.int .i64 x) := fun p => p.cell s1
          have ob : ∀ p : Over wc, p.w.cell? ⟨b1, o1 + j * 2 + 1, none⟩ = some (.int .i64 y) := fun p => p.cell s2
          refine wp_region_over wc (Below.refl _ _) (by kernel_rfl) (by kernel_rfl) ?_
          repeat (go_big_quiet_step (fail))
          refine wpQuiet_nil ?_
          intro wv hw'
          have hbv := over_below hw'
          clear hw' oa ob w1 w2
          go_wp2_with fail
          go_roundw
          case rel => exact ⟨j + 1, a + x, c + y, by omega, by go_num, rfl, rfl, hid (by rw [HSS.out.1, ← HA.out]), hid (by rw [HSS.out.2, ← HC.out]), by omega, by omega, by omega, by omega, hid (by rw [HKK.out]; rfl), below_then hBc hbv⟩
          case measure => simp [intOf]; omega
    · have hjn : n = j := by omega
      subst hjn
      have hA := HA.out
      have hC := HC.out
      have hK := HK.out
      rw [HTK.out] at hA hC hK
      have hv : isM nl nr l = (decide (a = nl) && decide (c = nr)) := by rw [HIS.out, hK, hA, hC]; rfl
      have HV := hid hv
      clear hv hA hC hK
      by_cases e1 : a = nl
      · subst e1
        by_cases e2 : c = nr
        · subst e2
          go_wp2_with fail
          go_ret
          exact ⟨by rw [HV.out]; simp, hB⟩
        · go_wp2_with fail
          go_ret
          exact ⟨by rw [HV.out]; simp [e2], hB⟩
      · go_wp2_with fail
        go_ret
        exact ⟨by rw [HV.out]; simp [e1], hB⟩

end Go.Proofs.Ytohahlnhbppnhaa

namespace Go.Proofs.Ytohahlnhbppnhaa
open Go.RowKit
set_option linter.unusedSimpArgs false
set_option linter.unusedVariables false

/-- The error of two texts with steps. -/
def matchedE (L R : List Sen) (l : List (Int × Int)) : Int := if faultM L R = 0 then (if isM L.length R.length l then 0 else 9) else faultM L R

set_option maxHeartbeats 1000000 in
theorem lawFault_any (L R : List Sen) (n m nc mc : Nat) (la ra : Option Addr) (w : World) (hL : L.length = n) (hR : R.length = m) (hn : n ≤ 1000) (hm : m ≤ 1000) (kL : ∀ s ∈ L, s.marks.length ≤ 1000) (kR : ∀ s ∈ R, s.marks.length ≤ 1000) (hS : TextAt w la L) (hT : TextAt w ra R) :
    Calls Try.prog 17 #[.slice la n nc, .slice ra m mc] w fun e w' => e = .returned (.int .i64 (faultM L R)) ∧ Below w.heap.size w w' := by
  have hf := refFault_any L R n m nc mc la ra w hL hR hn hm kL kR hS hT
  generalize faultM L R = z at hf ⊢
  clear hS hT
  go_enter Try.func17, Try.ntmps17
  go_wp2_with (go_at_call 51; refine hf.mono ?_; rintro e w1 ⟨rfl, hb⟩)
  go_ret
  exact ⟨rfl, hb⟩

set_option maxHeartbeats 1000000 in
theorem matched_any (L R : List Sen) (l : List (Int × Int)) (n m nc mc ns sc : Nat) (la ra sa : Option Addr) (w : World) (hL : L.length = n) (hR : R.length = m) (hn : n ≤ 1000) (hm : m ≤ 1000) (kL : ∀ s ∈ L, s.marks.length ≤ 1000) (kR : ∀ s ∈ R, s.marks.length ≤ 1000) (hS : TextAt w la L) (hT : TextAt w ra R) (hl : l.length = ns) (hns : ns ≤ 1000) (hP : PairsAt w sa l) :
    Calls Try.prog 27 #[.slice la n nc, .slice ra m mc, .slice sa ns sc] w fun e w' => e = .returned (.int .i64 (matchedE L R l)) ∧ Below w.heap.size w w' := by
  have hf := lawFault_any L R n m nc mc la ra w hL hR hn hm kL kR hS hT
  have hi := fun W (hb : Below w.heap.size w W) => isMatch_any l n nc m mc ns sc la ra sa W hn hm hl hns (hP.grown hb)
  have HE : Hid (matchedE L R l = if faultM L R = 0 then (if isM n m l then 0 else 9) else faultM L R) := hid (by unfold matchedE; rw [hL, hR])
  generalize faultM L R = z at hf HE
  clear hS hT hP hL hR hl
  by_cases hz : z = 0
  · subst hz
    cases hb : isM n m l with
    | true =>
      rw [hb] at hi HE
      go_enter Try.func27, Try.ntmps27
      go_wp2_with (first | (go_at_call 17; refine hf.mono ?_; rintro e w1 ⟨rfl, hb1⟩) | (go_at_call 62; refine (hi _ hb1).mono ?_; rintro e w2 ⟨rfl, hb2⟩))
      go_ret
      exact ⟨by rw [HE.out]; rfl, below_then hb1 hb2⟩
    | false =>
      rw [hb] at hi HE
      go_enter Try.func27, Try.ntmps27
      go_wp2_with (first | (go_at_call 17; refine hf.mono ?_; rintro e w1 ⟨rfl, hb1⟩) | (go_at_call 62; refine (hi _ hb1).mono ?_; rintro e w2 ⟨rfl, hb2⟩))
      go_ret
      exact ⟨by rw [HE.out]; rfl, below_then hb1 hb2⟩
  · have hz' : (z == 0) = false := by simpa using hz
    go_enter Try.func27, Try.ntmps27
    go_wp2_with (go_at_call 17; refine hf.mono ?_; rintro e w1 ⟨rfl, hb1⟩)
    go_ret
    exact ⟨by rw [HE.out]; simp [hz], hb1⟩

/-- The steps that are taken, with their places, by sums. -/
theorem go_entries (nl nr : Nat) (l : List (Int × Int)) : ∀ (i k : Nat) (ms : List (Nat × Nat × Nat × Nat)) (a c : Nat), goM nl nr l i k = some (ms, a, c) → ∀ j, j < l.length →
    ms.getD j default = (i + (sumL (l.take j)).toNat, k + (sumR (l.take j)).toNat, (l.getD j (0, 0)).1.toNat, (l.getD j (0, 0)).2.toNat) ∧ 0 ≤ sumL (l.take j) ∧ 0 ≤ sumR (l.take j) ∧ 0 ≤ (l.getD j (0, 0)).1 ∧ 0 ≤ (l.getD j (0, 0)).2 := by
  induction l with
  | nil => intro i k ms a c h j hj; simp at hj
  | cons s l ih =>
    intro i k ms a c h j hj
    simp only [goM] at h
    cases hx : takeM nl nr i k s.1 s.2 with
    | none => rw [hx] at h; cases h
    | some t =>
      rw [hx] at h
      simp only at h
      obtain ⟨-, e1, e2⟩ := take_mem hx
      cases hg : goM nl nr l (i + t.1) (k + t.2) with
      | none => rw [hg] at h; cases h
      | some r =>
        rw [hg] at h
        obtain ⟨ms', a', c'⟩ := r
        simp only [Option.map_some, Option.some.injEq, Prod.mk.injEq] at h
        obtain ⟨rfl, rfl, rfl⟩ := h
        cases j with
        | zero =>
          have z1 : sumL ((s :: l).take 0) = 0 := rfl
          have z2 : sumR ((s :: l).take 0) = 0 := rfl
          rw [z1, z2]
          refine ⟨?_, Int.le_refl _, Int.le_refl _, ?_, ?_⟩
          · show (i, k, t.1, t.2) = (i + 0, k + 0, s.1.toNat, s.2.toNat)
            rw [show s.1.toNat = t.1 by omega, show s.2.toNat = t.2 by omega]
            rfl
          · show 0 ≤ s.1; omega
          · show 0 ≤ s.2; omega
        | succ j =>
          obtain ⟨h1, h2, h3, h4, h5⟩ := ih _ _ _ _ _ hg j (by simpa using hj)
          have z1 : sumL ((s :: l).take (j + 1)) = s.1 + sumL (l.take j) := rfl
          have z2 : sumR ((s :: l).take (j + 1)) = s.2 + sumR (l.take j) := rfl
          rw [z1, z2]
          refine ⟨?_, by omega, by omega, h4, h5⟩
          show ms'.getD j default = _
          rw [h1]
          have y1 : (s.1 + sumL (l.take j)).toNat = t.1 + (sumL (l.take j)).toNat := by omega
          have y2 : (s.2 + sumR (l.take j)).toNat = t.2 + (sumR (l.take j)).toNat := by omega
          rw [y1, y2, Nat.add_assoc, Nat.add_assoc]
          rfl

end Go.Proofs.Ytohahlnhbppnhaa
