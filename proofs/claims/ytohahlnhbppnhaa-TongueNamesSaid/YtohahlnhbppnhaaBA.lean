/- Tongue, the laws: a match that is chosen by some words. -/
import Derived.Test.YtohahlnhbppnhaaAZ
import Derived.Deep.CutRange
import Derived.Deep.CutBlock
namespace Go.Proofs.Ytohahlnhbppnhaa
open Go.RowKit
set_option linter.unusedSimpArgs false
set_option linter.unusedVariables false

theorem Try.info37 : (Try.prog.info? 37).map (fun i => (i.zero, i.size, i.bytes)) = some (some (.agg #[.int .i64 0, .int .i64 0]), 2, 16) := by kernel_rfl

/-- Bytes, as they lie in memory. -/
def BytesAt (w : World) (a : Option Addr) (L : List Int) : Prop :=
  ∀ i, i < L.length → ∃ b off, a = some ⟨b, off, none⟩ ∧ w.cell? ⟨b, off + i, none⟩ = some (.int .u8 (L.getD i 0)) ∧ 0 ≤ L.getD i 0 ∧ L.getD i 0 ≤ 255

theorem BytesAt.grown {w w' : World} {a : Option Addr} {L : List Int} (h : BytesAt w a L) (hb : Below w.heap.size w w') : BytesAt w' a L := fun i hi => by
  obtain ⟨b, off, ea, c, h1, h2⟩ := h i hi
  exact ⟨b, off, ea, cell_grown hb c, h1, h2⟩

theorem kinds_bd : ∀ at_, at_ < 5 → 0 ≤ (kindsI.getD at_ (0, 0)).1 ∧ (kindsI.getD at_ (0, 0)).1 ≤ 2 ∧ 0 ≤ (kindsI.getD at_ (0, 0)).2 ∧ (kindsI.getD at_ (0, 0)).2 ≤ 2 ∧ 1 ≤ (kindsI.getD at_ (0, 0)).1 + (kindsI.getD at_ (0, 0)).2 := by decide

theorem kinds_mem : ∀ at_, at_ < 5 → ((kindsI.getD at_ (0, 0)).1.toNat, (kindsI.getD at_ (0, 0)).2.toNat) ∈ kinds := by decide

theorem take_kind {nl nr i k at_ : Nat} (ha : at_ < 5) (h1 : (i : Int) + (kindsI.getD at_ (0, 0)).1 ≤ nl) (h2 : (k : Int) + (kindsI.getD at_ (0, 0)).2 ≤ nr) :
    takeM nl nr i k (kindsI.getD at_ (0, 0)).1 (kindsI.getD at_ (0, 0)).2 = some ((kindsI.getD at_ (0, 0)).1.toNat, (kindsI.getD at_ (0, 0)).2.toNat) := by
  have hm := kinds_mem at_ ha
  obtain ⟨b1, -, b2, -⟩ := kinds_bd at_ ha
  generalize (kindsI.getD at_ (0, 0)).1 = x at *
  generalize (kindsI.getD at_ (0, 0)).2 = y at *
  have hf : (x.toNat, y.toNat) ∈ movesM nl nr i k := by
    unfold movesM
    refine List.mem_filter.2 ⟨hm, ?_⟩
    simp only [fitsM, Bool.and_eq_true, decide_eq_true_eq]
    exact ⟨by omega, by omega⟩
  unfold takeM
  cases h : (movesM nl nr i k).find? (isStep x y) with
  | none =>
    rw [List.find?_eq_none] at h
    exact absurd (by simp only [isStep, decide_eq_true_eq]; omega) (h _ hf)
  | some s =>
    have := List.find?_some h
    simp only [isStep, decide_eq_true_eq] at this
    obtain ⟨s1, s2⟩ := s
    simp only at this
    have e1 : s1 = x.toNat := by omega
    have e2 : s2 = y.toNat := by omega
    rw [e1, e2]

/-- How far it is to a kind that fits. -/
def farK (nl i at_ : Nat) : Nat := ((if i < nl then 3 else 4) + 5 - at_) % 5

theorem farK_next {nl nr i k at_ : Nat} (ha : at_ < 5) (h : i < nl ∨ k < nr) (hi : i ≤ nl) (hk : k ≤ nr) (hno : ¬ ((i : Int) + (kindsI.getD at_ (0, 0)).1 ≤ nl ∧ (k : Int) + (kindsI.getD at_ (0, 0)).2 ≤ nr)) : farK nl i ((at_ + 1) % 5) < farK nl i at_ := by
  have h5 : at_ = 0 ∨ at_ = 1 ∨ at_ = 2 ∨ at_ = 3 ∨ at_ = 4 := by omega
  unfold farK
  rcases h5 with rfl | rfl | rfl | rfl | rfl
  · split <;> decide
  · split <;> decide
  · split <;> decide
  · simp only [kindsI, List.getD_cons_succ, List.getD_cons_zero] at hno
    rw [if_neg (by omega)]
    decide
  · simp only [kindsI, List.getD_cons_succ, List.getD_cons_zero] at hno
    rw [if_pos (by omega)]
    decide

set_option maxRecDepth 100000 in
set_option maxHeartbeats 2000000 in
theorem chosen_any (nl nr nc mc wn wc : Nat) (la ra wa : Option Addr) (ws : List Int) (w : World) (hnl : nl ≤ 1000) (hnr : nr ≤ 1000) (hw : ws.length = wn) (hwn : wn ≤ 9223372036854775807) (hW : BytesAt w wa ws) :
    Calls Try.prog 49 #[.slice la nl nc, .slice ra nr mc, .slice wa wn wc] w fun e w' => ∃ l ms a cap, e = .returned (.slice a l.length cap) ∧ PairsAt w' a l ∧ matchM nl nr l = some ms ∧ l.length ≤ nl + nr ∧ Below w.heap.size w w' := by
  obtain ⟨i0, hi0, hz0, hz1, hz2⟩ := info_parts Try.info37
  have hk2 : ∀ at_, at_ < 5 → ∀ W, Calls Try.prog 56 #[] W fun e w' => ∃ b, e = .returned (.slice (some ⟨b, 0, none⟩) 5 5) ∧ w'.cell? ⟨b, at_ * 2, none⟩ = some (.int .i64 (kindsI.getD at_ (0, 0)).1) ∧ w'.cell? ⟨b, at_ * 2 + 1, none⟩ = some (.int .i64 (kindsI.getD at_ (0, 0)).2) ∧ Below W.heap.size W w' := fun at_ h5 W => (kinds_any W).mono fun e w' h => by
    obtain ⟨b, rfl, hp, hb⟩ := h
    obtain ⟨b', off, eb, c0, c1⟩ := hp at_ h5
    cases eb
    rw [Nat.zero_add] at c0 c1
    exact ⟨b, rfl, c0, c1, hb⟩
  have HW := hid hw
  clear hw
  go_enter Try.func49, Try.ntmps49
  go_wp2_with fail
  go_loopw [7, 8, 9, 10, 11] (fun v iv kv mv _ wr => ∃ (l : List (Int × Int)) (ms : List (Nat × Nat × Nat × Nat)) (i k : Nat), iv = .int .i64 i ∧ kv = .int .i64 k ∧ mv = .int .i64 l.length ∧ Hid (goM nl nr l 0 0 = some (ms, i, k)) ∧ i ≤ nl ∧ k ≤ nr ∧ l.length ≤ i + k ∧ wr.ownsRow w.heap.size 37 2 v l.length (flatP l) ∧ Below w.heap.size w wr) (fun _ iv kv _ _ _ => nl + nr - ((intOf iv).toNat + (intOf kv).toNat))
  case atStart => exact ⟨[], [], 0, 0, rfl, rfl, rfl, hid rfl, Nat.zero_le _, Nat.zero_le _, Nat.zero_le _, World.ownsRow_nil _ _ _ _, Below.refl _ _⟩
  case round =>
    obtain ⟨l, ms, i, k, rfl, rfl, rfl, HG, hi, hk, hlen, hown, hB⟩ := hrel
    obtain ⟨va, vc, rfl⟩ := owns_shape hown
    have hsz := hB.size
    by_cases hmore : i < nl ∨ k < nr
    · obtain ⟨m, hm⟩ : ∃ m, l.length = m := ⟨_, rfl⟩
      rw [hm] at hown hlen
      simp only [hm]
      have HMM := hid hm
      clear hm
      have hdis : (i : Int) < nl ∨ (k : Int) < nr := by omega
      have hat0 : ∃ at_ : Nat, at_ < 5 ∧ ((wn = 0 ∧ at_ = 0) ∨ (0 < wn ∧ ∃ q x b off, q < wn ∧ (m : Int).tmod (wn : Int) = (q : Int) ∧ IntKind.i64.wrap ((m : Int).tmod (wn : Int)) = (q : Int) ∧ wa = some ⟨b, off, none⟩ ∧ wr.cell? ⟨b, off + q, none⟩ = some (.int .u8 x) ∧ 0 ≤ x ∧ x ≤ 255 ∧ x.tmod 5 = (at_ : Int) ∧ IntKind.i64.wrap (x.tmod 5) = (at_ : Int))) := by
        by_cases h0 : wn = 0
        · exact ⟨0, by omega, Or.inl ⟨h0, rfl⟩⟩
        · have hq := Nat.mod_lt m (by omega : 0 < wn)
          obtain ⟨b, off, ea, c, h1, h2⟩ := (hW.grown hB) (m % wn) (by rw [HW.out]; exact hq)
          have e1 : (m : Int).tmod (wn : Int) = ((m % wn : Nat) : Int) := by rw [Int.tmod_eq_emod_of_nonneg (by omega)]; rfl
          have e2 : (ws.getD (m % wn) 0).tmod 5 = (((ws.getD (m % wn) 0) % 5).toNat : Int) := by rw [Int.tmod_eq_emod_of_nonneg h1]; omega
          refine ⟨((ws.getD (m % wn) 0) % 5).toNat, by omega, Or.inr ⟨by omega, m % wn, ws.getD (m % wn) 0, b, off, hq, e1, ?_, ea, c, h1, h2, e2, ?_⟩⟩
          · rw [e1, IntKind.wrap_i64]; omega
          · rw [e2, IntKind.wrap_i64]; omega
      obtain ⟨at0, ha0, ⟨h0, rfl⟩ | ⟨h0, q, x, b, off, hq, e1, e2, rfl, c, x1, x2, e3, e4⟩⟩ := hat0
      · subst h0
        go_upto_block 2 with fail
        all_goals (clear hdis)
        all_goals
          go_cut [11] from 36 to 60 (fun v wx => ∃ at_ : Nat, v = .int .i64 at_ ∧ at_ < 5 ∧ (i : Int) + (kindsI.getD at_ (0, 0)).1 ≤ nl ∧ (k : Int) + (kindsI.getD at_ (0, 0)).2 ≤ nr ∧ Below wr.heap.size wr wx)
          case first =>
            have hbx0 : Below wr.heap.size wr wr := Below.refl _ _
            go_wp2_with fail
            go_loopw [11] (fun v wx => ∃ at_ : Nat, v = .int .i64 at_ ∧ at_ < 5 ∧ Below wr.heap.size wr wx) (fun v _ => farK nl i (intOf v).toNat)
            case atStart => exact ⟨0, rfl, by omega, hbx0⟩
            case round =>
              clear hbx0
              obtain ⟨at_, rfl, h5, hbx⟩ := hrel
              have hfar := fun hno => farK_next (nl := nl) (nr := nr) (i := i) (k := k) h5 hmore hi hk hno
              obtain ⟨x, hx⟩ : ∃ x, (kindsI.getD at_ (0, 0)).1 = x := ⟨_, rfl⟩
              obtain ⟨y, hy⟩ : ∃ y, (kindsI.getD at_ (0, 0)).2 = y := ⟨_, rfl⟩
              obtain ⟨z1, z2, z3, z4, -⟩ := kinds_bd at_ h5
              rw [hx] at hfar z1 z2
              rw [hy] at hfar z3 z4
              have HFAR := hid hfar
              clear hfar
              have HX := hid hx
              have HY := hid hy
              have m1 : ((at_ : Int) + 1).tmod 5 = (((at_ + 1) % 5 : Nat) : Int) := by rw [Int.tmod_eq_emod_of_nonneg (by omega)]; omega
              have m2 : IntKind.i64.wrap (((at_ : Int) + 1).tmod 5) = (((at_ + 1) % 5 : Nat) : Int) := by rw [m1, IntKind.wrap_i64]; omega
              by_cases f1 : (i : Int) + x ≤ nl
              · have f1' : ¬ ((nl : Int) - i < x) := by omega
                by_cases f2 : (k : Int) + y ≤ nr
                · have f2' : ¬ ((nr : Int) - k < y) := by omega
                  clear m1 m2
                  go_wp2_with (go_at_call 56; refine (hk2 at_ h5 _).mono ?_; rintro e wq ⟨kb, rfl, c0, c1, hq⟩; rw [hx] at c0; rw [hy] at c1; have gk := lt_of_cell c0; replace hbx := below_then hbx hq)
                  go_meet
                  exact ⟨at_, rfl, h5, by rw [HX.out]; exact f1, by rw [HY.out]; exact f2, hbx⟩
                · have f2' : ((nr : Int) - k < y) := by omega
                  have hm := HFAR.out (by omega)
                  go_wp2_with (go_at_call 56; refine (hk2 at_ h5 _).mono ?_; rintro e wq ⟨kb, rfl, c0, c1, hq⟩; rw [hx] at c0; rw [hy] at c1; have gk := lt_of_cell c0; replace hbx := below_then hbx hq)
                  go_roundw
                  case rel => exact ⟨(at_ + 1) % 5, by go_num, by omega, hbx⟩
                  case measure => simp [intOf]; rw [show (((at_ : Int) + 1) % 5).toNat = (at_ + 1) % 5 by omega]; exact hm
              · have f1' : ((nl : Int) - i < x) := by omega
                have hm := HFAR.out (by omega)
                go_wp2_with (go_at_call 56; refine (hk2 at_ h5 _).mono ?_; rintro e wq ⟨kb, rfl, c0, c1, hq⟩; rw [hx] at c0; rw [hy] at c1; have gk := lt_of_cell c0; replace hbx := below_then hbx hq)
                go_roundw
                case rel => exact ⟨(at_ + 1) % 5, by go_num, by omega, hbx⟩
                case measure => simp [intOf]; rw [show (((at_ : Int) + 1) % 5).toNat = (at_ + 1) % 5 by omega]; exact hm
          case rest =>
            obtain ⟨at_, rfl, h5, f1, f2, hbx⟩ := hcut
            have htk := take_kind (nl := nl) (nr := nr) h5 f1 f2
            have hgs := goM_snoc nl nr l (kindsI.getD at_ (0, 0)) 0 0
            rw [HG.out] at hgs
            simp only [htk] at hgs
            obtain ⟨z1, z2, z3, z4, z5⟩ := kinds_bd at_ h5
            obtain ⟨x, hx⟩ : ∃ x, (kindsI.getD at_ (0, 0)).1 = x := ⟨_, rfl⟩
            obtain ⟨y, hy⟩ : ∃ y, (kindsI.getD at_ (0, 0)).2 = y := ⟨_, rfl⟩
            have hxy : kindsI.getD at_ (0, 0) = (x, y) := by rw [← hx, ← hy]
            rw [hxy] at hgs
            simp only at hgs
            rw [hx] at f1 z1 z2
            rw [hy] at f2 z3 z4
            rw [hx, hy] at z5
            have HGS := hid hgs
            clear htk hgs hxy
            go_upto_region 12 with (first | (go_at_call 56; refine (hk2 at_ h5 _).mono ?_; rintro e wq ⟨kb, rfl, c0, c1, hq⟩; rw [hx] at c0; rw [hy] at c1; have gk := lt_of_cell c0; have hbw := below_then hbx hq; have hsw := hbw.size; have hown2 := book_owns hown (grown_none hbw) (fun r e => by cases e); have hown3 := book_owns hown2 (grown_none (below_alloc wq (.cells #[.int .i64 x, .int .i64 y] 37))) (fun r e => by cases e)) | (at_builtin; refine wpList_append_own_at _ rfl _ _ 32 rfl w.heap.size 37 i0 (.agg #[.int .i64 0, .int .i64 0]) 2 16 Try.underlying32 hi0 hz0 hz1 hz2 rfl (by decide) _ _ _ rfl hown3 ⟨wq.heap.size, 0, none⟩ 1 1 [.int .i64 x, .int .i64 y] rfl rfl (pair_new wq _ _ 37) (by simp [Value.oneCell']) (by unfold maxLen; omega) (by omega) (by simp; omega) ?_; intro v' w5 hown' hgrow hnil hloc; have hb5 : Below w.heap.size wq w5 := (((Below.refl w.heap.size wq).alloc (by omega) _).grown hgrow (by simp; omega) (fun r e => (hown2.lt r e).1)); have hB5 : Below w.heap.size w w5 := hB.trans ((hbw.mono hsz).trans hb5)))
            have hyd : Below w5.heap.size w5 w5.drew := (Below.refl _ _).drew
            have w1 : IntKind.i64.wrap ((i : Int) + x) = ((i + x.toNat : Nat) : Int) := by rw [IntKind.wrap_i64]; omega
            have w2 : IntKind.i64.wrap ((k : Int) + y) = ((k + y.toNat : Nat) : Int) := by rw [IntKind.wrap_i64]; omega
            clear hown hown2 hown3 hbw hb5 hgrow hnil hloc c0 c1 gk hbx
            have hqA := hyd
            have hbz := hyd
            have h5i : (at_ : Int) < 5 := by omega
            have h50 : (0 : Int) ≤ at_ := by omega
            refine wp_region_held_drew (S := (fun _ : World => True)) (by kernel_rfl) ?_ (fun hHeld => ?_)
            · trivial
            refine wpAnyH_take (i := 0) (oi := _) (v := ?_) rfl (by kernel_rfl) (by kernel_rfl) (by kernel_rfl) (fun _ _ _ h => h) (Or.inl ⟨by rfl, ?_⟩) (by assumption) ?_
            rotate_left 1
            · intro w hSw
              (try dsimp only at hSw)
              go_simp
              all_goals (with_reducible rfl)
            try simp only [Act.put, List.setIfInBounds_toArray, List.set_cons_zero, List.set_cons_succ]
            refine wpAnyH_take (i := 2) (oi := _) (v := ?_) rfl (by kernel_rfl) (by kernel_rfl) (by kernel_rfl) (fun _ _ _ h => h) (Or.inl ⟨by rfl, ?_⟩) (by assumption) ?_
            rotate_left 1
            · intro w hSw
              (try dsimp only at hSw)
              go_simp
              all_goals (with_reducible rfl)
            try simp only [Act.put, List.setIfInBounds_toArray, List.set_cons_zero, List.set_cons_succ]
            refine wpAnyH_take (i := 7) (oi := _) (v := ?_) rfl (by kernel_rfl) (by kernel_rfl) (by kernel_rfl) (fun _ _ _ h => h) (Or.inl ⟨by rfl, ?_⟩) (by assumption) ?_
            rotate_left 1
            · intro w hSw
              (try dsimp only at hSw)
              go_simp
              all_goals (with_reducible rfl)
            try simp only [Act.put, List.setIfInBounds_toArray, List.set_cons_zero, List.set_cons_succ]
            refine wpAnyH_take (i := 9) (oi := _) (v := ?_) rfl (by kernel_rfl) (by kernel_rfl) (by kernel_rfl) (fun _ _ _ h => h) (Or.inl ⟨by rfl, ?_⟩) (by assumption) ?_
            rotate_left 1
            · intro w hSw
              (try dsimp only at hSw)
              go_simp
              all_goals (with_reducible rfl)
            try simp only [Act.put, List.setIfInBounds_toArray, List.set_cons_zero, List.set_cons_succ]
            refine wpAnyH_ready (rs := [1]) (by kernel_rfl) (by simp) ?_
            refine AllReadyH.cons (o := _) rfl (fun K hK => ?_) ?_
            · go_simp
              go_at_call 56
              refine (hk2 at_ h5 _).mono ?_
              rintro e wA ⟨kA, rfl, cA0, cA1, hqA⟩
              rw [hx] at cA0
              rw [hy] at cA1
              have gA := lt_of_cell cA0
              replace hbz := below_then hbz hqA
              try dsimp only
              refine hK.out _ _ ?_ (fun hHeld => ?_)
              · trivial
              clear hK K
              try simp only [Act.put, List.setIfInBounds_toArray, List.set_cons_zero, List.set_cons_succ]
              refine wpAnyH_take (i := 3) (oi := _) (v := ?_) rfl (by kernel_rfl) (by kernel_rfl) (by kernel_rfl) (fun _ _ _ h => h) (Or.inl ⟨by rfl, ?_⟩) (by assumption) ?_
              rotate_left 1
              · intro w hSw
                (try dsimp only at hSw)
                go_simp
                all_goals (with_reducible rfl)
              try simp only [Act.put, List.setIfInBounds_toArray, List.set_cons_zero, List.set_cons_succ]
              refine wpAnyH_take (i := 4) (oi := _) (v := ?_) rfl (by kernel_rfl) (by kernel_rfl) (by kernel_rfl) (fun _ _ _ h => h) (Or.inl ⟨by rfl, ?_⟩) (by assumption) ?_
              rotate_left 1
              · intro w hSw
                (try dsimp only at hSw)
                go_simp
                all_goals (with_reducible rfl)
              try simp only [Act.put, List.setIfInBounds_toArray, List.set_cons_zero, List.set_cons_succ]
              refine wpAnyH_ready (rs := [5, 8]) (by kernel_rfl) (by simp) ?_
              refine AllReadyH.cons (o := _) rfl (fun K hK => ?_) ?_
              · go_simp
                refine hK.out _ _ ?_ (fun hHeld => ?_)
                · trivial
                clear hK K
                try simp only [Act.put, List.setIfInBounds_toArray, List.set_cons_zero, List.set_cons_succ]
                refine wpAnyH_take (i := 6) (oi := _) (v := ?_) rfl (by kernel_rfl) (by kernel_rfl) (by kernel_rfl) (fun _ _ _ h => h) (Or.inl ⟨by rfl, ?_⟩) (by assumption) ?_
                rotate_left 1
                · intro w hSw
                  (try dsimp only at hSw)
                  go_simp
                  all_goals (with_reducible rfl)
                try simp only [Act.put, List.setIfInBounds_toArray, List.set_cons_zero, List.set_cons_succ]
                refine wpAnyH_ready (rs := [8]) (by kernel_rfl) (by simp) ?_
                refine AllReadyH.cons (o := _) rfl (fun K hK => ?_) ?_
                · go_simp
                  go_at_call 56
                  refine (hk2 at_ h5 _).mono ?_
                  rintro e wB ⟨kB, rfl, cB0, cB1, hqB⟩
                  rw [hx] at cB0
                  rw [hy] at cB1
                  have gB := lt_of_cell cB0
                  replace hbz := below_then hbz hqB
                  replace cA0 := cell_grown hqB cA0
                  replace cA1 := cell_grown hqB cA1
                  replace gA := lt_of_cell cA0
                  try dsimp only
                  refine hK.out _ _ ?_ (fun hHeld => ?_)
                  · trivial
                  clear hK K
                  try simp only [Act.put, List.setIfInBounds_toArray, List.set_cons_zero, List.set_cons_succ]
                  refine wpAnyH_take (i := 10) (oi := _) (v := ?_) rfl (by kernel_rfl) (by kernel_rfl) (by kernel_rfl) (fun _ _ _ h => h) (Or.inl ⟨by rfl, ?_⟩) (by assumption) ?_
                  rotate_left 1
                  · intro w hSw
                    (try dsimp only at hSw)
                    go_simp
                    all_goals (with_reducible rfl)
                  try simp only [Act.put, List.setIfInBounds_toArray, List.set_cons_zero, List.set_cons_succ]
                  refine wpAnyH_take (i := 11) (oi := _) (v := ?_) rfl (by kernel_rfl) (by kernel_rfl) (by kernel_rfl) (fun _ _ _ h => h) (Or.inl ⟨by rfl, ?_⟩) (by assumption) ?_
                  rotate_left 1
                  · intro w hSw
                    (try dsimp only at hSw)
                    go_simp
                    all_goals (with_reducible rfl)
                  try simp only [Act.put, List.setIfInBounds_toArray, List.set_cons_zero, List.set_cons_succ]
                  refine wpAnyH_take (i := 14) (oi := _) (v := ?_) rfl (by kernel_rfl) (by kernel_rfl) (by kernel_rfl) (fun _ _ _ h => h) (Or.inl ⟨by rfl, ?_⟩) (by assumption) ?_
                  rotate_left 1
                  · intro w hSw
                    (try dsimp only at hSw)
                    go_simp
                    all_goals (with_reducible rfl)
                  try simp only [Act.put, List.setIfInBounds_toArray, List.set_cons_zero, List.set_cons_succ]
                  refine wpAnyH_ready (rs := [12]) (by kernel_rfl) (by simp) ?_
                  refine AllReadyH.cons (o := _) rfl (fun K hK => ?_) ?_
                  · go_simp
                    refine hK.out _ _ ?_ (fun hHeld => ?_)
                    · trivial
                    clear hK K
                    try simp only [Act.put, List.setIfInBounds_toArray, List.set_cons_zero, List.set_cons_succ]
                    refine wpAnyH_take (i := 13) (oi := _) (v := ?_) rfl (by kernel_rfl) (by kernel_rfl) (by kernel_rfl) (fun _ _ _ h => h) (Or.inl ⟨by rfl, ?_⟩) (by assumption) ?_
                    rotate_left 1
                    · intro w hSw
                      (try dsimp only at hSw)
                      go_simp
                      all_goals (with_reducible rfl)
                    try simp only [Act.put, List.setIfInBounds_toArray, List.set_cons_zero, List.set_cons_succ]
                    refine wpAnyH_take (i := 15) (oi := _) (v := ?_) rfl (by kernel_rfl) (by kernel_rfl) (by kernel_rfl) (fun _ _ _ h => h) (Or.inl ⟨by rfl, ?_⟩) (by assumption) ?_
                    rotate_left 1
                    · intro w hSw
                      (try dsimp only at hSw)
                      go_simp
                      all_goals (with_reducible rfl)
                    try simp only [Act.put, List.setIfInBounds_toArray, List.set_cons_zero, List.set_cons_succ]
                    refine wpAnyH_done (by kernel_rfl) ?_ _
                    have ho := book_owns hown' (grown_none hbz) (fun r e => by cases e)
                    go_wp2_with fail
                    go_roundw
                    case rel => exact ⟨l ++ [(x, y)], ms ++ [(i, k, x.toNat, y.toNat)], i + x.toNat, k + y.toNat, by go_num, by go_num, by rw [List.length_append, HMM.out]; go_num, HGS, by omega, by omega, by rw [List.length_append, HMM.out, List.length_singleton]; omega, by rw [List.length_append, HMM.out, flatP_append]; exact ho, hB5.trans (hbz.mono hB5.size)⟩
                    case measure => simp [intOf]; omega
                  exact AllReadyH.nil
                exact AllReadyH.nil
              refine AllReadyH.cons (o := _) rfl (fun K hK => ?_) ?_
              · go_simp
                go_at_call 56
                refine (hk2 at_ h5 _).mono ?_
                rintro e wB ⟨kB, rfl, cB0, cB1, hqB⟩
                rw [hx] at cB0
                rw [hy] at cB1
                have gB := lt_of_cell cB0
                replace hbz := below_then hbz hqB
                replace cA0 := cell_grown hqB cA0
                replace cA1 := cell_grown hqB cA1
                replace gA := lt_of_cell cA0
                try dsimp only
                refine hK.out _ _ ?_ (fun hHeld => ?_)
                · trivial
                clear hK K
                try simp only [Act.put, List.setIfInBounds_toArray, List.set_cons_zero, List.set_cons_succ]
                refine wpAnyH_take (i := 10) (oi := _) (v := ?_) rfl (by kernel_rfl) (by kernel_rfl) (by kernel_rfl) (fun _ _ _ h => h) (Or.inl ⟨by rfl, ?_⟩) (by assumption) ?_
                rotate_left 1
                · intro w hSw
                  (try dsimp only at hSw)
                  go_simp
                  all_goals (with_reducible rfl)
                try simp only [Act.put, List.setIfInBounds_toArray, List.set_cons_zero, List.set_cons_succ]
                refine wpAnyH_take (i := 11) (oi := _) (v := ?_) rfl (by kernel_rfl) (by kernel_rfl) (by kernel_rfl) (fun _ _ _ h => h) (Or.inl ⟨by rfl, ?_⟩) (by assumption) ?_
                rotate_left 1
                · intro w hSw
                  (try dsimp only at hSw)
                  go_simp
                  all_goals (with_reducible rfl)
                try simp only [Act.put, List.setIfInBounds_toArray, List.set_cons_zero, List.set_cons_succ]
                refine wpAnyH_ready (rs := [5, 12]) (by kernel_rfl) (by simp) ?_
                refine AllReadyH.cons (o := _) rfl (fun K hK => ?_) ?_
                · go_simp
                  refine hK.out _ _ ?_ (fun hHeld => ?_)
                  · trivial
                  clear hK K
                  try simp only [Act.put, List.setIfInBounds_toArray, List.set_cons_zero, List.set_cons_succ]
                  refine wpAnyH_take (i := 6) (oi := _) (v := ?_) rfl (by kernel_rfl) (by kernel_rfl) (by kernel_rfl) (fun _ _ _ h => h) (Or.inl ⟨by rfl, ?_⟩) (by assumption) ?_
                  rotate_left 1
                  · intro w hSw
                    (try dsimp only at hSw)
                    go_simp
                    all_goals (with_reducible rfl)
                  try simp only [Act.put, List.setIfInBounds_toArray, List.set_cons_zero, List.set_cons_succ]
                  refine wpAnyH_take (i := 14) (oi := _) (v := ?_) rfl (by kernel_rfl) (by kernel_rfl) (by kernel_rfl) (fun _ _ _ h => h) (Or.inl ⟨by rfl, ?_⟩) (by assumption) ?_
                  rotate_left 1
                  · intro w hSw
                    (try dsimp only at hSw)
                    go_simp
                    all_goals (with_reducible rfl)
                  try simp only [Act.put, List.setIfInBounds_toArray, List.set_cons_zero, List.set_cons_succ]
                  refine wpAnyH_ready (rs := [12]) (by kernel_rfl) (by simp) ?_
                  refine AllReadyH.cons (o := _) rfl (fun K hK => ?_) ?_
                  · go_simp
                    refine hK.out _ _ ?_ (fun hHeld => ?_)
                    · trivial
                    clear hK K
                    try simp only [Act.put, List.setIfInBounds_toArray, List.set_cons_zero, List.set_cons_succ]
                    refine wpAnyH_take (i := 13) (oi := _) (v := ?_) rfl (by kernel_rfl) (by kernel_rfl) (by kernel_rfl) (fun _ _ _ h => h) (Or.inl ⟨by rfl, ?_⟩) (by assumption) ?_
                    rotate_left 1
                    · intro w hSw
                      (try dsimp only at hSw)
                      go_simp
                      all_goals (with_reducible rfl)
                    try simp only [Act.put, List.setIfInBounds_toArray, List.set_cons_zero, List.set_cons_succ]
                    refine wpAnyH_take (i := 15) (oi := _) (v := ?_) rfl (by kernel_rfl) (by kernel_rfl) (by kernel_rfl) (fun _ _ _ h => h) (Or.inl ⟨by rfl, ?_⟩) (by assumption) ?_
                    rotate_left 1
                    · intro w hSw
                      (try dsimp only at hSw)
                      go_simp
                      all_goals (with_reducible rfl)
                    try simp only [Act.put, List.setIfInBounds_toArray, List.set_cons_zero, List.set_cons_succ]
                    refine wpAnyH_done (by kernel_rfl) ?_ _
                    have ho := book_owns hown' (grown_none hbz) (fun r e => by cases e)
                    go_wp2_with fail
                    go_roundw
                    case rel => exact ⟨l ++ [(x, y)], ms ++ [(i, k, x.toNat, y.toNat)], i + x.toNat, k + y.toNat, by go_num, by go_num, by rw [List.length_append, HMM.out]; go_num, HGS, by omega, by omega, by rw [List.length_append, HMM.out, List.length_singleton]; omega, by rw [List.length_append, HMM.out, flatP_append]; exact ho, hB5.trans (hbz.mono hB5.size)⟩
                    case measure => simp [intOf]; omega
                  exact AllReadyH.nil
                refine AllReadyH.cons (o := _) rfl (fun K hK => ?_) ?_
                · go_simp
                  refine hK.out _ _ ?_ (fun hHeld => ?_)
                  · trivial
                  clear hK K
                  try simp only [Act.put, List.setIfInBounds_toArray, List.set_cons_zero, List.set_cons_succ]
                  refine wpAnyH_take (i := 13) (oi := _) (v := ?_) rfl (by kernel_rfl) (by kernel_rfl) (by kernel_rfl) (fun _ _ _ h => h) (Or.inl ⟨by rfl, ?_⟩) (by assumption) ?_
                  rotate_left 1
                  · intro w hSw
                    (try dsimp only at hSw)
                    go_simp
                    all_goals (with_reducible rfl)
                  try simp only [Act.put, List.setIfInBounds_toArray, List.set_cons_zero, List.set_cons_succ]
                  refine wpAnyH_ready (rs := [5]) (by kernel_rfl) (by simp) ?_
                  refine AllReadyH.cons (o := _) rfl (fun K hK => ?_) ?_
                  · go_simp
                    refine hK.out _ _ ?_ (fun hHeld => ?_)
                    · trivial
                    clear hK K
                    try simp only [Act.put, List.setIfInBounds_toArray, List.set_cons_zero, List.set_cons_succ]
                    refine wpAnyH_take (i := 6) (oi := _) (v := ?_) rfl (by kernel_rfl) (by kernel_rfl) (by kernel_rfl) (fun _ _ _ h => h) (Or.inl ⟨by rfl, ?_⟩) (by assumption) ?_
                    rotate_left 1
                    · intro w hSw
                      (try dsimp only at hSw)
                      go_simp
                      all_goals (with_reducible rfl)
                    try simp only [Act.put, List.setIfInBounds_toArray, List.set_cons_zero, List.set_cons_succ]
                    refine wpAnyH_take (i := 14) (oi := _) (v := ?_) rfl (by kernel_rfl) (by kernel_rfl) (by kernel_rfl) (fun _ _ _ h => h) (Or.inl ⟨by rfl, ?_⟩) (by assumption) ?_
                    rotate_left 1
                    · intro w hSw
                      (try dsimp only at hSw)
                      go_simp
                      all_goals (with_reducible rfl)
                    try simp only [Act.put, List.setIfInBounds_toArray, List.set_cons_zero, List.set_cons_succ]
                    refine wpAnyH_take (i := 15) (oi := _) (v := ?_) rfl (by kernel_rfl) (by kernel_rfl) (by kernel_rfl) (fun _ _ _ h => h) (Or.inl ⟨by rfl, ?_⟩) (by assumption) ?_
                    rotate_left 1
                    · intro w hSw
                      (try dsimp only at hSw)
                      go_simp
                      all_goals (with_reducible rfl)
                    try simp only [Act.put, List.setIfInBounds_toArray, List.set_cons_zero, List.set_cons_succ]
                    refine wpAnyH_done (by kernel_rfl) ?_ _
                    have ho := book_owns hown' (grown_none hbz) (fun r e => by cases e)
                    go_wp2_with fail
                    go_roundw
                    case rel => exact ⟨l ++ [(x, y)], ms ++ [(i, k, x.toNat, y.toNat)], i + x.toNat, k + y.toNat, by go_num, by go_num, by rw [List.length_append, HMM.out]; go_num, HGS, by omega, by omega, by rw [List.length_append, HMM.out, List.length_singleton]; omega, by rw [List.length_append, HMM.out, flatP_append]; exact ho, hB5.trans (hbz.mono hB5.size)⟩
                    case measure => simp [intOf]; omega
                  exact AllReadyH.nil
                exact AllReadyH.nil
              exact AllReadyH.nil
            exact AllReadyH.nil
      · have h0' : (0 : Int) < (wn : Int) := by omega
        have gc := lt_of_cell c
        go_upto_block 2 with fail
        all_goals (clear hdis e1 e2 e3 e4 c gc h0')
        all_goals
          go_cut [11] from 36 to 60 (fun v wx => ∃ at_ : Nat, v = .int .i64 at_ ∧ at_ < 5 ∧ (i : Int) + (kindsI.getD at_ (0, 0)).1 ≤ nl ∧ (k : Int) + (kindsI.getD at_ (0, 0)).2 ≤ nr ∧ Below wr.heap.size wr wx)
          case first =>
            have hbx0 : Below wr.heap.size wr wr := Below.refl _ _
            go_wp2_with fail
            go_loopw [11] (fun v wx => ∃ at_ : Nat, v = .int .i64 at_ ∧ at_ < 5 ∧ Below wr.heap.size wr wx) (fun v _ => farK nl i (intOf v).toNat)
            case atStart => exact ⟨at0, rfl, ha0, hbx0⟩
            case round =>
              clear hbx0
              obtain ⟨at_, rfl, h5, hbx⟩ := hrel
              have hfar := fun hno => farK_next (nl := nl) (nr := nr) (i := i) (k := k) h5 hmore hi hk hno
              obtain ⟨x, hx⟩ : ∃ x, (kindsI.getD at_ (0, 0)).1 = x := ⟨_, rfl⟩
              obtain ⟨y, hy⟩ : ∃ y, (kindsI.getD at_ (0, 0)).2 = y := ⟨_, rfl⟩
              obtain ⟨z1, z2, z3, z4, -⟩ := kinds_bd at_ h5
              rw [hx] at hfar z1 z2
              rw [hy] at hfar z3 z4
              have HFAR := hid hfar
              clear hfar
              have HX := hid hx
              have HY := hid hy
              have m1 : ((at_ : Int) + 1).tmod 5 = (((at_ + 1) % 5 : Nat) : Int) := by rw [Int.tmod_eq_emod_of_nonneg (by omega)]; omega
              have m2 : IntKind.i64.wrap (((at_ : Int) + 1).tmod 5) = (((at_ + 1) % 5 : Nat) : Int) := by rw [m1, IntKind.wrap_i64]; omega
              by_cases f1 : (i : Int) + x ≤ nl
              · have f1' : ¬ ((nl : Int) - i < x) := by omega
                by_cases f2 : (k : Int) + y ≤ nr
                · have f2' : ¬ ((nr : Int) - k < y) := by omega
                  clear m1 m2
                  go_wp2_with (go_at_call 56; refine (hk2 at_ h5 _).mono ?_; rintro e wq ⟨kb, rfl, c0, c1, hq⟩; rw [hx] at c0; rw [hy] at c1; have gk := lt_of_cell c0; replace hbx := below_then hbx hq)
                  go_meet
                  exact ⟨at_, rfl, h5, by rw [HX.out]; exact f1, by rw [HY.out]; exact f2, hbx⟩
                · have f2' : ((nr : Int) - k < y) := by omega
                  have hm := HFAR.out (by omega)
                  go_wp2_with (go_at_call 56; refine (hk2 at_ h5 _).mono ?_; rintro e wq ⟨kb, rfl, c0, c1, hq⟩; rw [hx] at c0; rw [hy] at c1; have gk := lt_of_cell c0; replace hbx := below_then hbx hq)
                  go_roundw
                  case rel => exact ⟨(at_ + 1) % 5, by go_num, by omega, hbx⟩
                  case measure => simp [intOf]; rw [show (((at_ : Int) + 1) % 5).toNat = (at_ + 1) % 5 by omega]; exact hm
              · have f1' : ((nl : Int) - i < x) := by omega
                have hm := HFAR.out (by omega)
                go_wp2_with (go_at_call 56; refine (hk2 at_ h5 _).mono ?_; rintro e wq ⟨kb, rfl, c0, c1, hq⟩; rw [hx] at c0; rw [hy] at c1; have gk := lt_of_cell c0; replace hbx := below_then hbx hq)
                go_roundw
                case rel => exact ⟨(at_ + 1) % 5, by go_num, by omega, hbx⟩
                case measure => simp [intOf]; rw [show (((at_ : Int) + 1) % 5).toNat = (at_ + 1) % 5 by omega]; exact hm
          case rest =>
            obtain ⟨at_, rfl, h5, f1, f2, hbx⟩ := hcut
            have htk := take_kind (nl := nl) (nr := nr) h5 f1 f2
            have hgs := goM_snoc nl nr l (kindsI.getD at_ (0, 0)) 0 0
            rw [HG.out] at hgs
            simp only [htk] at hgs
            obtain ⟨z1, z2, z3, z4, z5⟩ := kinds_bd at_ h5
            obtain ⟨x, hx⟩ : ∃ x, (kindsI.getD at_ (0, 0)).1 = x := ⟨_, rfl⟩
            obtain ⟨y, hy⟩ : ∃ y, (kindsI.getD at_ (0, 0)).2 = y := ⟨_, rfl⟩
            have hxy : kindsI.getD at_ (0, 0) = (x, y) := by rw [← hx, ← hy]
            rw [hxy] at hgs
            simp only at hgs
            rw [hx] at f1 z1 z2
            rw [hy] at f2 z3 z4
            rw [hx, hy] at z5
            have HGS := hid hgs
            clear htk hgs hxy
            go_upto_region 12 with (first | (go_at_call 56; refine (hk2 at_ h5 _).mono ?_; rintro e wq ⟨kb, rfl, c0, c1, hq⟩; rw [hx] at c0; rw [hy] at c1; have gk := lt_of_cell c0; have hbw := below_then hbx hq; have hsw := hbw.size; have hown2 := book_owns hown (grown_none hbw) (fun r e => by cases e); have hown3 := book_owns hown2 (grown_none (below_alloc wq (.cells #[.int .i64 x, .int .i64 y] 37))) (fun r e => by cases e)) | (at_builtin; refine wpList_append_own_at _ rfl _ _ 32 rfl w.heap.size 37 i0 (.agg #[.int .i64 0, .int .i64 0]) 2 16 Try.underlying32 hi0 hz0 hz1 hz2 rfl (by decide) _ _ _ rfl hown3 ⟨wq.heap.size, 0, none⟩ 1 1 [.int .i64 x, .int .i64 y] rfl rfl (pair_new wq _ _ 37) (by simp [Value.oneCell']) (by unfold maxLen; omega) (by omega) (by simp; omega) ?_; intro v' w5 hown' hgrow hnil hloc; have hb5 : Below w.heap.size wq w5 := (((Below.refl w.heap.size wq).alloc (by omega) _).grown hgrow (by simp; omega) (fun r e => (hown2.lt r e).1)); have hB5 : Below w.heap.size w w5 := hB.trans ((hbw.mono hsz).trans hb5)))
            have hyd : Below w5.heap.size w5 w5.drew := (Below.refl _ _).drew
            have w1 : IntKind.i64.wrap ((i : Int) + x) = ((i + x.toNat : Nat) : Int) := by rw [IntKind.wrap_i64]; omega
            have w2 : IntKind.i64.wrap ((k : Int) + y) = ((k + y.toNat : Nat) : Int) := by rw [IntKind.wrap_i64]; omega
            clear hown hown2 hown3 hbw hb5 hgrow hnil hloc c0 c1 gk hbx
            have hqA := hyd
            have hbz := hyd
            have h5i : (at_ : Int) < 5 := by omega
            have h50 : (0 : Int) ≤ at_ := by omega
            refine wp_region_held_drew (S := (fun _ : World => True)) (by kernel_rfl) ?_ (fun hHeld => ?_)
            · trivial
            refine wpAnyH_take (i := 0) (oi := _) (v := ?_) rfl (by kernel_rfl) (by kernel_rfl) (by kernel_rfl) (fun _ _ _ h => h) (Or.inl ⟨by rfl, ?_⟩) (by assumption) ?_
            rotate_left 1
            · intro w hSw
              (try dsimp only at hSw)
              go_simp
              all_goals (with_reducible rfl)
            try simp only [Act.put, List.setIfInBounds_toArray, List.set_cons_zero, List.set_cons_succ]
            refine wpAnyH_take (i := 2) (oi := _) (v := ?_) rfl (by kernel_rfl) (by kernel_rfl) (by kernel_rfl) (fun _ _ _ h => h) (Or.inl ⟨by rfl, ?_⟩) (by assumption) ?_
            rotate_left 1
            · intro w hSw
              (try dsimp only at hSw)
              go_simp
              all_goals (with_reducible rfl)
            try simp only [Act.put, List.setIfInBounds_toArray, List.set_cons_zero, List.set_cons_succ]
            refine wpAnyH_take (i := 7) (oi := _) (v := ?_) rfl (by kernel_rfl) (by kernel_rfl) (by kernel_rfl) (fun _ _ _ h => h) (Or.inl ⟨by rfl, ?_⟩) (by assumption) ?_
            rotate_left 1
            · intro w hSw
              (try dsimp only at hSw)
              go_simp
              all_goals (with_reducible rfl)
            try simp only [Act.put, List.setIfInBounds_toArray, List.set_cons_zero, List.set_cons_succ]
            refine wpAnyH_take (i := 9) (oi := _) (v := ?_) rfl (by kernel_rfl) (by kernel_rfl) (by kernel_rfl) (fun _ _ _ h => h) (Or.inl ⟨by rfl, ?_⟩) (by assumption) ?_
            rotate_left 1
            · intro w hSw
              (try dsimp only at hSw)
              go_simp
              all_goals (with_reducible rfl)
            try simp only [Act.put, List.setIfInBounds_toArray, List.set_cons_zero, List.set_cons_succ]
            refine wpAnyH_ready (rs := [1]) (by kernel_rfl) (by simp) ?_
            refine AllReadyH.cons (o := _) rfl (fun K hK => ?_) ?_
            · go_simp
              go_at_call 56
              refine (hk2 at_ h5 _).mono ?_
              rintro e wA ⟨kA, rfl, cA0, cA1, hqA⟩
              rw [hx] at cA0
              rw [hy] at cA1
              have gA := lt_of_cell cA0
              replace hbz := below_then hbz hqA
              try dsimp only
              refine hK.out _ _ ?_ (fun hHeld => ?_)
              · trivial
              clear hK K
              try simp only [Act.put, List.setIfInBounds_toArray, List.set_cons_zero, List.set_cons_succ]
              refine wpAnyH_take (i := 3) (oi := _) (v := ?_) rfl (by kernel_rfl) (by kernel_rfl) (by kernel_rfl) (fun _ _ _ h => h) (Or.inl ⟨by rfl, ?_⟩) (by assumption) ?_
              rotate_left 1
              · intro w hSw
                (try dsimp only at hSw)
                go_simp
                all_goals (with_reducible rfl)
              try simp only [Act.put, List.setIfInBounds_toArray, List.set_cons_zero, List.set_cons_succ]
              refine wpAnyH_take (i := 4) (oi := _) (v := ?_) rfl (by kernel_rfl) (by kernel_rfl) (by kernel_rfl) (fun _ _ _ h => h) (Or.inl ⟨by rfl, ?_⟩) (by assumption) ?_
              rotate_left 1
              · intro w hSw
                (try dsimp only at hSw)
                go_simp
                all_goals (with_reducible rfl)
              try simp only [Act.put, List.setIfInBounds_toArray, List.set_cons_zero, List.set_cons_succ]
              refine wpAnyH_ready (rs := [5, 8]) (by kernel_rfl) (by simp) ?_
              refine AllReadyH.cons (o := _) rfl (fun K hK => ?_) ?_
              · go_simp
                refine hK.out _ _ ?_ (fun hHeld => ?_)
                · trivial
                clear hK K
                try simp only [Act.put, List.setIfInBounds_toArray, List.set_cons_zero, List.set_cons_succ]
                refine wpAnyH_take (i := 6) (oi := _) (v := ?_) rfl (by kernel_rfl) (by kernel_rfl) (by kernel_rfl) (fun _ _ _ h => h) (Or.inl ⟨by rfl, ?_⟩) (by assumption) ?_
                rotate_left 1
                · intro w hSw
                  (try dsimp only at hSw)
                  go_simp
                  all_goals (with_reducible rfl)
                try simp only [Act.put, List.setIfInBounds_toArray, List.set_cons_zero, List.set_cons_succ]
                refine wpAnyH_ready (rs := [8]) (by kernel_rfl) (by simp) ?_
                refine AllReadyH.cons (o := _) rfl (fun K hK => ?_) ?_
                · go_simp
                  go_at_call 56
                  refine (hk2 at_ h5 _).mono ?_
                  rintro e wB ⟨kB, rfl, cB0, cB1, hqB⟩
                  rw [hx] at cB0
                  rw [hy] at cB1
                  have gB := lt_of_cell cB0
                  replace hbz := below_then hbz hqB
                  replace cA0 := cell_grown hqB cA0
                  replace cA1 := cell_grown hqB cA1
                  replace gA := lt_of_cell cA0
                  try dsimp only
                  refine hK.out _ _ ?_ (fun hHeld => ?_)
                  · trivial
                  clear hK K
                  try simp only [Act.put, List.setIfInBounds_toArray, List.set_cons_zero, List.set_cons_succ]
                  refine wpAnyH_take (i := 10) (oi := _) (v := ?_) rfl (by kernel_rfl) (by kernel_rfl) (by kernel_rfl) (fun _ _ _ h => h) (Or.inl ⟨by rfl, ?_⟩) (by assumption) ?_
                  rotate_left 1
                  · intro w hSw
                    (try dsimp only at hSw)
                    go_simp
                    all_goals (with_reducible rfl)
                  try simp only [Act.put, List.setIfInBounds_toArray, List.set_cons_zero, List.set_cons_succ]
                  refine wpAnyH_take (i := 11) (oi := _) (v := ?_) rfl (by kernel_rfl) (by kernel_rfl) (by kernel_rfl) (fun _ _ _ h => h) (Or.inl ⟨by rfl, ?_⟩) (by assumption) ?_
                  rotate_left 1
                  · intro w hSw
                    (try dsimp only at hSw)
                    go_simp
                    all_goals (with_reducible rfl)
                  try simp only [Act.put, List.setIfInBounds_toArray, List.set_cons_zero, List.set_cons_succ]
                  refine wpAnyH_take (i := 14) (oi := _) (v := ?_) rfl (by kernel_rfl) (by kernel_rfl) (by kernel_rfl) (fun _ _ _ h => h) (Or.inl ⟨by rfl, ?_⟩) (by assumption) ?_
                  rotate_left 1
                  · intro w hSw
                    (try dsimp only at hSw)
                    go_simp
                    all_goals (with_reducible rfl)
                  try simp only [Act.put, List.setIfInBounds_toArray, List.set_cons_zero, List.set_cons_succ]
                  refine wpAnyH_ready (rs := [12]) (by kernel_rfl) (by simp) ?_
                  refine AllReadyH.cons (o := _) rfl (fun K hK => ?_) ?_
                  · go_simp
                    refine hK.out _ _ ?_ (fun hHeld => ?_)
                    · trivial
                    clear hK K
                    try simp only [Act.put, List.setIfInBounds_toArray, List.set_cons_zero, List.set_cons_succ]
                    refine wpAnyH_take (i := 13) (oi := _) (v := ?_) rfl (by kernel_rfl) (by kernel_rfl) (by kernel_rfl) (fun _ _ _ h => h) (Or.inl ⟨by rfl, ?_⟩) (by assumption) ?_
                    rotate_left 1
                    · intro w hSw
                      (try dsimp only at hSw)
                      go_simp
                      all_goals (with_reducible rfl)
                    try simp only [Act.put, List.setIfInBounds_toArray, List.set_cons_zero, List.set_cons_succ]
                    refine wpAnyH_take (i := 15) (oi := _) (v := ?_) rfl (by kernel_rfl) (by kernel_rfl) (by kernel_rfl) (fun _ _ _ h => h) (Or.inl ⟨by rfl, ?_⟩) (by assumption) ?_
                    rotate_left 1
                    · intro w hSw
                      (try dsimp only at hSw)
                      go_simp
                      all_goals (with_reducible rfl)
                    try simp only [Act.put, List.setIfInBounds_toArray, List.set_cons_zero, List.set_cons_succ]
                    refine wpAnyH_done (by kernel_rfl) ?_ _
                    have ho := book_owns hown' (grown_none hbz) (fun r e => by cases e)
                    go_wp2_with fail
                    go_roundw
                    case rel => exact ⟨l ++ [(x, y)], ms ++ [(i, k, x.toNat, y.toNat)], i + x.toNat, k + y.toNat, by go_num, by go_num, by rw [List.length_append, HMM.out]; go_num, HGS, by omega, by omega, by rw [List.length_append, HMM.out, List.length_singleton]; omega, by rw [List.length_append, HMM.out, flatP_append]; exact ho, hB5.trans (hbz.mono hB5.size)⟩
                    case measure => simp [intOf]; omega
                  exact AllReadyH.nil
                exact AllReadyH.nil
              refine AllReadyH.cons (o := _) rfl (fun K hK => ?_) ?_
              · go_simp
                go_at_call 56
                refine (hk2 at_ h5 _).mono ?_
                rintro e wB ⟨kB, rfl, cB0, cB1, hqB⟩
                rw [hx] at cB0
                rw [hy] at cB1
                have gB := lt_of_cell cB0
                replace hbz := below_then hbz hqB
                replace cA0 := cell_grown hqB cA0
                replace cA1 := cell_grown hqB cA1
                replace gA := lt_of_cell cA0
                try dsimp only
                refine hK.out _ _ ?_ (fun hHeld => ?_)
                · trivial
                clear hK K
                try simp only [Act.put, List.setIfInBounds_toArray, List.set_cons_zero, List.set_cons_succ]
                refine wpAnyH_take (i := 10) (oi := _) (v := ?_) rfl (by kernel_rfl) (by kernel_rfl) (by kernel_rfl) (fun _ _ _ h => h) (Or.inl ⟨by rfl, ?_⟩) (by assumption) ?_
                rotate_left 1
                · intro w hSw
                  (try dsimp only at hSw)
                  go_simp
                  all_goals (with_reducible rfl)
                try simp only [Act.put, List.setIfInBounds_toArray, List.set_cons_zero, List.set_cons_succ]
                refine wpAnyH_take (i := 11) (oi := _) (v := ?_) rfl (by kernel_rfl) (by kernel_rfl) (by kernel_rfl) (fun _ _ _ h => h) (Or.inl ⟨by rfl, ?_⟩) (by assumption) ?_
                rotate_left 1
                · intro w hSw
                  (try dsimp only at hSw)
                  go_simp
                  all_goals (with_reducible rfl)
                try simp only [Act.put, List.setIfInBounds_toArray, List.set_cons_zero, List.set_cons_succ]
                refine wpAnyH_ready (rs := [5, 12]) (by kernel_rfl) (by simp) ?_
                refine AllReadyH.cons (o := _) rfl (fun K hK => ?_) ?_
                · go_simp
                  refine hK.out _ _ ?_ (fun hHeld => ?_)
                  · trivial
                  clear hK K
                  try simp only [Act.put, List.setIfInBounds_toArray, List.set_cons_zero, List.set_cons_succ]
                  refine wpAnyH_take (i := 6) (oi := _) (v := ?_) rfl (by kernel_rfl) (by kernel_rfl) (by kernel_rfl) (fun _ _ _ h => h) (Or.inl ⟨by rfl, ?_⟩) (by assumption) ?_
                  rotate_left 1
                  · intro w hSw
                    (try dsimp only at hSw)
                    go_simp
                    all_goals (with_reducible rfl)
                  try simp only [Act.put, List.setIfInBounds_toArray, List.set_cons_zero, List.set_cons_succ]
                  refine wpAnyH_take (i := 14) (oi := _) (v := ?_) rfl (by kernel_rfl) (by kernel_rfl) (by kernel_rfl) (fun _ _ _ h => h) (Or.inl ⟨by rfl, ?_⟩) (by assumption) ?_
                  rotate_left 1
                  · intro w hSw
                    (try dsimp only at hSw)
                    go_simp
                    all_goals (with_reducible rfl)
                  try simp only [Act.put, List.setIfInBounds_toArray, List.set_cons_zero, List.set_cons_succ]
                  refine wpAnyH_ready (rs := [12]) (by kernel_rfl) (by simp) ?_
                  refine AllReadyH.cons (o := _) rfl (fun K hK => ?_) ?_
                  · go_simp
                    refine hK.out _ _ ?_ (fun hHeld => ?_)
                    · trivial
                    clear hK K
                    try simp only [Act.put, List.setIfInBounds_toArray, List.set_cons_zero, List.set_cons_succ]
                    refine wpAnyH_take (i := 13) (oi := _) (v := ?_) rfl (by kernel_rfl) (by kernel_rfl) (by kernel_rfl) (fun _ _ _ h => h) (Or.inl ⟨by rfl, ?_⟩) (by assumption) ?_
                    rotate_left 1
                    · intro w hSw
                      (try dsimp only at hSw)
                      go_simp
                      all_goals (with_reducible rfl)
                    try simp only [Act.put, List.setIfInBounds_toArray, List.set_cons_zero, List.set_cons_succ]
                    refine wpAnyH_take (i := 15) (oi := _) (v := ?_) rfl (by kernel_rfl) (by kernel_rfl) (by kernel_rfl) (fun _ _ _ h => h) (Or.inl ⟨by rfl, ?_⟩) (by assumption) ?_
                    rotate_left 1
                    · intro w hSw
                      (try dsimp only at hSw)
                      go_simp
                      all_goals (with_reducible rfl)
                    try simp only [Act.put, List.setIfInBounds_toArray, List.set_cons_zero, List.set_cons_succ]
                    refine wpAnyH_done (by kernel_rfl) ?_ _
                    have ho := book_owns hown' (grown_none hbz) (fun r e => by cases e)
                    go_wp2_with fail
                    go_roundw
                    case rel => exact ⟨l ++ [(x, y)], ms ++ [(i, k, x.toNat, y.toNat)], i + x.toNat, k + y.toNat, by go_num, by go_num, by rw [List.length_append, HMM.out]; go_num, HGS, by omega, by omega, by rw [List.length_append, HMM.out, List.length_singleton]; omega, by rw [List.length_append, HMM.out, flatP_append]; exact ho, hB5.trans (hbz.mono hB5.size)⟩
                    case measure => simp [intOf]; omega
                  exact AllReadyH.nil
                refine AllReadyH.cons (o := _) rfl (fun K hK => ?_) ?_
                · go_simp
                  refine hK.out _ _ ?_ (fun hHeld => ?_)
                  · trivial
                  clear hK K
                  try simp only [Act.put, List.setIfInBounds_toArray, List.set_cons_zero, List.set_cons_succ]
                  refine wpAnyH_take (i := 13) (oi := _) (v := ?_) rfl (by kernel_rfl) (by kernel_rfl) (by kernel_rfl) (fun _ _ _ h => h) (Or.inl ⟨by rfl, ?_⟩) (by assumption) ?_
                  rotate_left 1
                  · intro w hSw
                    (try dsimp only at hSw)
                    go_simp
                    all_goals (with_reducible rfl)
                  try simp only [Act.put, List.setIfInBounds_toArray, List.set_cons_zero, List.set_cons_succ]
                  refine wpAnyH_ready (rs := [5]) (by kernel_rfl) (by simp) ?_
                  refine AllReadyH.cons (o := _) rfl (fun K hK => ?_) ?_
                  · go_simp
                    refine hK.out _ _ ?_ (fun hHeld => ?_)
                    · trivial
                    clear hK K
                    try simp only [Act.put, List.setIfInBounds_toArray, List.set_cons_zero, List.set_cons_succ]
                    refine wpAnyH_take (i := 6) (oi := _) (v := ?_) rfl (by kernel_rfl) (by kernel_rfl) (by kernel_rfl) (fun _ _ _ h => h) (Or.inl ⟨by rfl, ?_⟩) (by assumption) ?_
                    rotate_left 1
                    · intro w hSw
                      (try dsimp only at hSw)
                      go_simp
                      all_goals (with_reducible rfl)
                    try simp only [Act.put, List.setIfInBounds_toArray, List.set_cons_zero, List.set_cons_succ]
                    refine wpAnyH_take (i := 14) (oi := _) (v := ?_) rfl (by kernel_rfl) (by kernel_rfl) (by kernel_rfl) (fun _ _ _ h => h) (Or.inl ⟨by rfl, ?_⟩) (by assumption) ?_
                    rotate_left 1
                    · intro w hSw
                      (try dsimp only at hSw)
                      go_simp
                      all_goals (with_reducible rfl)
                    try simp only [Act.put, List.setIfInBounds_toArray, List.set_cons_zero, List.set_cons_succ]
                    refine wpAnyH_take (i := 15) (oi := _) (v := ?_) rfl (by kernel_rfl) (by kernel_rfl) (by kernel_rfl) (fun _ _ _ h => h) (Or.inl ⟨by rfl, ?_⟩) (by assumption) ?_
                    rotate_left 1
                    · intro w hSw
                      (try dsimp only at hSw)
                      go_simp
                      all_goals (with_reducible rfl)
                    try simp only [Act.put, List.setIfInBounds_toArray, List.set_cons_zero, List.set_cons_succ]
                    refine wpAnyH_done (by kernel_rfl) ?_ _
                    have ho := book_owns hown' (grown_none hbz) (fun r e => by cases e)
                    go_wp2_with fail
                    go_roundw
                    case rel => exact ⟨l ++ [(x, y)], ms ++ [(i, k, x.toNat, y.toNat)], i + x.toNat, k + y.toNat, by go_num, by go_num, by rw [List.length_append, HMM.out]; go_num, HGS, by omega, by omega, by rw [List.length_append, HMM.out, List.length_singleton]; omega, by rw [List.length_append, HMM.out, flatP_append]; exact ho, hB5.trans (hbz.mono hB5.size)⟩
                    case measure => simp [intOf]; omega
                  exact AllReadyH.nil
                exact AllReadyH.nil
              exact AllReadyH.nil
            exact AllReadyH.nil
    · have ei : i = nl := by omega
      have ek : k = nr := by omega
      subst ei ek
      have hmt : matchM i k l = some ms := by unfold matchM; rw [HG.out]; simp
      have HMT := hid hmt
      clear hmt hmore
      have hin := pairs_of_owns (T := l) (a := va) (cap := vc) (W := wr) (e := 37) (base := w.heap.size) hown
      go_wp2_with fail
      go_ret
      exact ⟨l, ms, va, vc, rfl, hin, HMT.out, hlen, hB⟩

end Go.Proofs.Ytohahlnhbppnhaa
