/- Tongue, the laws: a speech, for the program. -/
import Derived.Test.YtohahlnhbppnhaaAZ
import Derived.Deep.CutRange
import Derived.Deep.CutBlock
namespace Go.Proofs.Ytohahlnhbppnhaa
open Go.RowKit
set_option linter.unusedSimpArgs false
set_option linter.unusedVariables false

def row3 (v0 v1 v2 : Value) : Nat → Value
  | 0 => v0 | 1 => v1 | _ => v2

theorem row3_alloc (w : World) (v0 v1 v2 : Value) (t : TypeId) : (w.alloc (.cells #[v0, v1, v2] t)).rowIs w.heap.size t 3 (row3 v0 v1 v2) :=
  World.rowIs_alloc w #[v0, v1, v2] t (row3 v0 v1 v2) (fun i hi => by
    have h : i < 3 := hi
    iterate 3 (rcases i with _ | i; · rfl)
    omega)

def set3 (X : World) (b : Nat) (v0 v1 v2 : Value) : World := ((X.setCell ⟨b, 0, none⟩ v0).setCell ⟨b, 1, none⟩ v1).setCell ⟨b, 2, none⟩ v2

theorem set3_row {X : World} {b : Nat} {t : TypeId} {f : Nat → Value} (v0 v1 v2 : Value) (h : X.rowIs b t 3 f) : (set3 X b v0 v1 v2).rowIs b t 3 (row3 v0 v1 v2) := by
  unfold set3
  refine (((h.set 0 _).set 1 _).set 2 _).congr (fun i hi => ?_)
  iterate 3 (rcases i with _ | i; · rfl)
  omega

theorem row3_set2 {X : World} {b : Nat} {t : TypeId} {v0 v1 v2 : Value} (v : Value) (h : X.rowIs b t 3 (row3 v0 v1 v2)) : (X.setCell ⟨b, 2, none⟩ v).rowIs b t 3 (row3 v0 v1 v) := by
  refine (h.set 2 v).congr (fun i hi => ?_)
  rcases i with _ | _ | _ | i
  · rfl
  · rfl
  · rfl
  · omega

theorem set3_below {B : Nat} {X Y : World} {b : Nat} (v0 v1 v2 : Value) (h : Below B X Y) (hb : B ≤ b) : Below B X (set3 Y b v0 v1 v2) := by
  unfold set3
  exact (((h.setCell (p := ⟨b, 0, none⟩) hb _).setCell (p := ⟨b, 1, none⟩) hb _).setCell (p := ⟨b, 2, none⟩) hb _)

theorem set3_block {X : World} {b c : Nat} (v0 v1 v2 : Value) (hne : c ≠ b) : (set3 X b v0 v1 v2).heap[c]? = X.heap[c]? := by
  unfold set3
  rw [Below.heap_setCell _ _ _ _ hne, Below.heap_setCell _ _ _ _ hne, Below.heap_setCell _ _ _ _ hne]

theorem set3_size (X : World) (b : Nat) (v0 v1 v2 : Value) : (set3 X b v0 v1 v2).heap.size = X.heap.size := by
  unfold set3
  simp

theorem cell_set3 {X : World} {b b' o o1 o2 o3 : Nat} {v u1 u2 u3 : Value} (h : b ≠ b') (hc : X.cell? ⟨b, o, none⟩ = some v) : (((X.setCell ⟨b', o1, none⟩ u1).setCell ⟨b', o2, none⟩ u2).setCell ⟨b', o3, none⟩ u3).cell? ⟨b, o, none⟩ = some v := by
  rw [World.cell?_setCell_other _ _ _ _ (by simp [h]), World.cell?_setCell_other _ _ _ _ (by simp [h]), World.cell?_setCell_other _ _ _ _ (by simp [h])]
  exact hc

theorem cell_set1 {X : World} {b b' o o1 : Nat} {v u1 : Value} (h : b ≠ b') (hc : X.cell? ⟨b, o, none⟩ = some v) : (X.setCell ⟨b', o1, none⟩ u1).cell? ⟨b, o, none⟩ = some v := by
  rw [World.cell?_setCell_other _ _ _ _ (by simp [h])]
  exact hc

theorem ints_set3 {X : World} {b : Nat} {a : Option Addr} {L : List Int} {v0 v1 v2 : Value} (h : ∀ ad, a = some ad → ad.block ≠ b) (hI : IntsAt X a L) : IntsAt (set3 X b v0 v1 v2) a L := fun i hi => by
  obtain ⟨c, off, ea, hc⟩ := hI i hi
  exact ⟨c, off, ea, cell_set3 (h _ ea) hc⟩

set_option maxRecDepth 100000 in
set_option maxHeartbeats 2000000 in
theorem speech_any (s : Spoken) (ns nc ms mc : Nat) (sa na : Option Addr) (w : World) (h1 : s.starts.length = ns) (h2 : s.needs.length = ms) (hn : ns ≤ 1000) (hm : ms ≤ 1000) (hS : IntsAt w sa s.starts) (hN : PairsAt w na s.needs) :
    Calls Try.prog 39 #[.agg #[.slice sa ns nc, .int .i64 s.lag, .slice na ms mc]] w fun e w' => ∃ a ac b bc B, e = .returned (.agg #[.slice a ns ac, .int .i64 s.lag, .slice b ms bc]) ∧ IntsAt w' a s.starts ∧ w'.ownsRow B 85 2 (.slice b ms bc) ms (flatP s.needs) ∧ w.heap.size ≤ B ∧ (∀ ad, a = some ad → ad.block < B) ∧ Below w.heap.size w w' := by
  obtain ⟨i0, hi0, hz0, hz1, hz2⟩ := info_parts Try.info85
  obtain ⟨g, hg⟩ : ∃ g, s.lag = g := ⟨_, rfl⟩
  simp only [hg]
  obtain ⟨W1, hW1⟩ : ∃ X, X = (w.alloc (.cells #[.slice sa ns nc, .int .i64 g, .slice na ms mc] 73)).alloc (.cells #[.slice none 0 0, .int .i64 0, .slice none 0 0] 78) := ⟨_, rfl⟩
  have hB1 : Below w.heap.size w W1 := by rw [hW1]; exact (below_alloc _ _).alloc (by simp) _
  have s1 : W1.heap.size = w.heap.size + 2 := by rw [hW1]; simp
  have p0 : W1.cell? ⟨w.heap.size, 0, none⟩ = some (.slice sa ns nc) := by rw [hW1]; simp [go_sem]
  have p1 : W1.cell? ⟨w.heap.size, 1, none⟩ = some (.int .i64 g) := by rw [hW1]; simp [go_sem]
  have p2 : W1.cell? ⟨w.heap.size, 2, none⟩ = some (.slice na ms mc) := by rw [hW1]; simp [go_sem]
  have hr2 : W1.rowIs (w.heap.size + 1) 78 3 (row3 (.slice none 0 0) (.int .i64 0) (.slice none 0 0)) := by
    rw [hW1]
    have h := row3_alloc (w.alloc (.cells #[.slice sa ns nc, .int .i64 g, .slice na ms mc] 73)) (.slice none 0 0) (.int .i64 0) (.slice none 0 0) 78
    simp only [World.size_alloc] at h
    exact h
  have hli := fun W hI => list_any s.starts ns nc sa W h1 (by omega) hI
  have hS1 := hS.grown hB1
  have hN1 := hN.grown hB1
  have HL := hid h1
  have HM := hid h2
  have S1 := hid s1
  have gp := lt_of_cell p0
  clear hS hN h1 h2 hg s1
  go_enter Try.func39, Try.ntmps39
  go_upto_region 1 with fail
  rw [← hW1]
  clear hW1
  have hBd : Below W1.heap.size W1 W1.drew := (Below.refl _ _).drew
  have dB : Below W1.heap.size W1 ((W1.alloc (.cells #[.slice none 0 0, .int .i64 0, .slice none 0 0] 78)).drew) := (below_alloc W1 _).drew
  go_cut [3] from 5 to 10 (fun v wx => ∃ q a ac, v = .pointer (some ⟨q, 0, none⟩) ∧ wx.rowIs q 78 3 (row3 (.slice a ns ac) (.int .i64 g) (.slice none 0 0)) ∧ W1.heap.size ≤ q ∧ IntsAt wx a s.starts ∧ (∀ ad, a = some ad → ad.block ≠ q ∧ ad.block < wx.heap.size ∧ W1.heap.size ≤ ad.block) ∧ Below W1.heap.size W1 wx)
  case first =>
    refine wp_region_held_drew (S := (fun w' : World => w'.cell? ⟨w.heap.size, 0, none⟩ = some (.slice sa ns nc) ∧ w'.cell? ⟨w.heap.size, 1, none⟩ = some (.int .i64 g))) (by kernel_rfl) ?_ (fun hHeld => ?_)
    · exact ⟨cell_grown hBd p0, cell_grown hBd p1⟩
    refine wpAnyH_take (i := 0) (oi := _) (v := ?_) rfl (by kernel_rfl) (by kernel_rfl) (by kernel_rfl) (fun _ _ _ h => h) (Or.inl ⟨by rfl, ?_⟩) (by assumption) ?_
    rotate_left 1
    · intro w hSw
      (try dsimp only at hSw)
      go_simp
      all_goals (with_reducible rfl)
    try simp only [Act.put, List.setIfInBounds_toArray, List.set_cons_zero, List.set_cons_succ]
    refine wpAnyH_take (i := 1) (oi := _) (v := ?_) rfl (by kernel_rfl) (by kernel_rfl) (by kernel_rfl) (fun _ _ _ h => h) (Or.inl ⟨by rfl, ?_⟩) (by assumption) ?_
    rotate_left 1
    · intro w hSw
      (try dsimp only at hSw)
      go_simp
      all_goals (with_reducible rfl)
    try simp only [Act.put, List.setIfInBounds_toArray, List.set_cons_zero, List.set_cons_succ]
    refine wpAnyH_take (i := 3) (oi := _) (v := ?_) rfl (by kernel_rfl) (by kernel_rfl) (by kernel_rfl) (fun _ _ _ h => h) (Or.inl ⟨by rfl, ?_⟩) (by assumption) ?_
    rotate_left 1
    · intro w hSw
      (try dsimp only at hSw)
      go_simp
      all_goals (with_reducible rfl)
    try simp only [Act.put, List.setIfInBounds_toArray, List.set_cons_zero, List.set_cons_succ]
    refine wpAnyH_take (i := 4) (oi := _) (v := ?_) rfl (by kernel_rfl) (by kernel_rfl) (by kernel_rfl) (fun _ _ _ h => h) (Or.inl ⟨by rfl, ?_⟩) (by assumption) ?_
    rotate_left 1
    · intro w hSw
      (try dsimp only at hSw)
      go_simp
      all_goals (with_reducible rfl)
    try simp only [Act.put, List.setIfInBounds_toArray, List.set_cons_zero, List.set_cons_succ]
    refine wpAnyH_ready (rs := [2, 6]) (by kernel_rfl) (by simp) ?_
    refine AllReadyH.cons (o := _) rfl (fun K hK => ?_) ?_
    · go_simp
      go_at_call 54
      refine (hli _ (hS1.grown hBd)).mono ?_
      rintro e wA ⟨a, ac, rfl, hIa, hfr, hq⟩
      have bA : Below W1.heap.size W1 wA := hBd.trans (hq.mono hBd.size)
      have bA1 : Below W1.heap.size W1 (wA.alloc (.cells #[.slice none 0 0, .int .i64 0, .slice none 0 0] 78)) := bA.alloc bA.size _
      have bA2 : Below W1.heap.size W1 (wA.alloc (.cells #[.slice a ns ac, .int .i64 g, .slice none 0 0] 78)) := bA.alloc bA.size _
      try dsimp only
      refine hK.out _ _ ?_ (fun hHeld => ?_)
      · exact ⟨cell_grown bA p0, cell_grown bA p1⟩
      clear hK K
      try simp only [Act.put, List.setIfInBounds_toArray, List.set_cons_zero, List.set_cons_succ]
      refine wpAnyH_take (i := 5) (oi := _) (v := ?_) rfl (by kernel_rfl) (by kernel_rfl) (by kernel_rfl) (fun _ _ _ h => h) (Or.inl ⟨by rfl, ?_⟩) (by assumption) ?_
      rotate_left 1
      · intro w hSw
        (try dsimp only at hSw)
        go_simp
        all_goals (with_reducible rfl)
      try simp only [Act.put, List.setIfInBounds_toArray, List.set_cons_zero, List.set_cons_succ]
      refine wpAnyH_ready (rs := [6]) (by kernel_rfl) (by simp) ?_
      refine AllReadyH.cons (o := _) rfl (fun K hK => ?_) ?_
      · go_simp
        refine hK.out _ _ ?_ (fun hHeld => ?_)
        · exact ⟨cell_grown bA1 p0, cell_grown bA1 p1⟩
        clear hK K
        try simp only [Act.put, List.setIfInBounds_toArray, List.set_cons_zero, List.set_cons_succ]
        refine wpAnyH_ready (rs := [7]) (by kernel_rfl) (by simp) ?_
        refine AllReadyH.cons (o := _) rfl (fun K hK => ?_) ?_
        · go_simp
          refine hK.out _ _ ?_ (fun hHeld => ?_)
          · exact ⟨cell_grown bA2 p0, cell_grown bA2 p1⟩
          clear hK K
          try simp only [Act.put, List.setIfInBounds_toArray, List.set_cons_zero, List.set_cons_succ]
          refine wpAnyH_done (by kernel_rfl) ?_ _
          go_wp2_with fail
          go_meet
          refine ⟨wA.heap.size, a, ac, rfl, row3_alloc wA _ _ _ 78, bA.size, hIa.grown (below_alloc _ _), fun ad e => ⟨by have := (hfr ad e).2; omega, by have := (hfr ad e).2; simp; omega, by have := (hfr ad e).1; have h : W1.drew.heap.size = W1.heap.size := rfl; omega⟩, bA2⟩
        exact AllReadyH.nil
      exact AllReadyH.nil
    refine AllReadyH.cons (o := _) rfl (fun K hK => ?_) ?_
    · go_simp
      refine hK.out _ _ ?_ (fun hHeld => ?_)
      · exact ⟨cell_grown dB p0, cell_grown dB p1⟩
      clear hK K
      try simp only [Act.put, List.setIfInBounds_toArray, List.set_cons_zero, List.set_cons_succ]
      refine wpAnyH_ready (rs := [2]) (by kernel_rfl) (by simp) ?_
      refine AllReadyH.cons (o := _) rfl (fun K hK => ?_) ?_
      · go_simp
        go_at_call 54
        refine (hli _ (hS1.grown dB)).mono ?_
        rintro e wA ⟨a, ac, rfl, hIa, hfr, hq⟩
        have bA : Below W1.heap.size W1 wA := dB.trans (hq.mono dB.size)
        have hro := (row3_alloc W1 (.slice none 0 0) (.int .i64 0) (.slice none 0 0) 78).of_block (hq.block _ (by simp))
        have x0 := hro.cell (i := 0) (by decide)
        have x1 := hro.cell (i := 1) (by decide)
        have x2 := hro.cell (i := 2) (by decide)
        have f0 := hro.frozen 0
        have f1 := hro.frozen 1
        have f2 := hro.frozen 2
        have gq := hro.lt
        simp only [row3] at x0 x1 x2
        try dsimp only
        refine hK.out _ _ ?_ (fun hHeld => ?_)
        · exact ⟨cell_grown bA p0, cell_grown bA p1⟩
        clear hK K
        try simp only [Act.put, List.setIfInBounds_toArray, List.set_cons_zero, List.set_cons_succ]
        refine wpAnyH_take (i := 5) (oi := _) (v := ?_) rfl (by kernel_rfl) (by kernel_rfl) (by kernel_rfl) (fun _ _ _ h => h) (Or.inl ⟨by rfl, ?_⟩) (by assumption) ?_
        rotate_left 1
        · intro w hSw
          (try dsimp only at hSw)
          go_simp
          all_goals (with_reducible rfl)
        try simp only [Act.put, List.setIfInBounds_toArray, List.set_cons_zero, List.set_cons_succ]
        refine wpAnyH_ready (rs := [7]) (by kernel_rfl) (by simp) ?_
        refine AllReadyH.cons (o := _) rfl (fun K hK => ?_) ?_
        · go_simp
          refine hK.out _ _ ?_ (fun hHeld => ?_)
          · exact ⟨cell_set3 (by omega) (cell_grown bA p0), cell_set3 (by omega) (cell_grown bA p1)⟩
          clear hK K
          try simp only [Act.put, List.setIfInBounds_toArray, List.set_cons_zero, List.set_cons_succ]
          refine wpAnyH_done (by kernel_rfl) ?_ _
          go_wp2_with fail
          go_meet
          refine ⟨W1.heap.size, a, ac, rfl, set3_row _ _ _ hro, Nat.le_refl _, ints_set3 (fun ad e => by have := (hfr ad e).1; simp at this; omega) hIa, fun ad e => ⟨by have := (hfr ad e).1; simp at this; omega, by have := (hfr ad e).2; have h := set3_size wA W1.heap.size (.slice a ns ac) (.int .i64 g) (.slice none 0 0); unfold set3 at h; omega, by have := (hfr ad e).1; simp at this; omega⟩, set3_below _ _ _ bA (Nat.le_refl _)⟩
        exact AllReadyH.nil
      exact AllReadyH.nil
    exact AllReadyH.nil
  case rest =>
    obtain ⟨q, a, ac, rfl, hro, hq1, hIa, hfa, hbx⟩ := hcut
    have qlt := hro.lt
    have HIA := hid hIa
    have HFA := hid hfa
    have HSU : Hid (∀ j, j < ms → s.needs.take (j + 1) = s.needs.take j ++ [s.needs.getD j (0, 0)]) := hid (fun j hj => take_pairs s.needs j (by rw [HM.out]; exact hj))
    have HFI : Hid (s.needs.take ms = s.needs) := hid (by rw [← HM.out, List.take_length])
    have hw1 := hbx.size
    clear hIa hfa hBd dB hli hS1
    go_wp2_with fail
    go_loopw [4] (fun i wr => ∃ (j : Nat) (v : Value), j ≤ ms ∧ i = .int .i64 j ∧ wr.rowIs q 78 3 (row3 (.slice a ns ac) (.int .i64 g) v) ∧ wr.ownsRow wc.heap.size 85 2 v j (flatP (s.needs.take j)) ∧ Hid (∀ k, k < wc.heap.size → k ≠ q → wr.heap[k]? = wc.heap[k]?) ∧ Below W1.heap.size W1 wr ∧ wc.heap.size ≤ wr.heap.size) (fun i _ => ms - (intOf i).toNat)
    case atStart => exact ⟨0, .slice none 0 0, Nat.zero_le _, rfl, hro, World.ownsRow_nil _ _ _ _, hid (fun _ _ _ => rfl), hbx, Nat.le_refl _⟩
    case round =>
      obtain ⟨j, v, hj, rfl, hro', hown, HK, hBr, hsz⟩ := hrel
      obtain ⟨va, vc, rfl⟩ := owns_shape hown
      have q2 := cell_grown hBr p2
      by_cases hlt : j < ms
      · have hlt' : (j : Int) < ms := by omega
        have hj0 : (0 : Int) ≤ (j : Int) := by omega
        obtain ⟨b1, o1, e1, c1, c2⟩ := hN1 j (by rw [HM.out]; exact hlt)
        subst e1
        have gb := lt_of_cell c1
        replace c1 := cell_grown hBr c1
        replace c2 := cell_grown hBr c2
        have hsu := HSU.out j hlt
        have hpe : s.needs.getD j (0, 0) = ((s.needs.getD j (0, 0)).1, (s.needs.getD j (0, 0)).2) := rfl
        rw [hpe] at hsu
        generalize (s.needs.getD j (0, 0)).1 = lo at c1 hsu
        generalize (s.needs.getD j (0, 0)).2 = hi at c2 hsu
        have HV := hid hsu
        clear hsu hpe
        have nq := hro'.cell (i := 2) (by decide)
        have gq := hro'.lt
        simp only [row3] at nq
        have hBr0 : Below wr.heap.size wr wr.drew := (Below.refl _ _).drew
        have hbl : Below wr.heap.size wr (wr.alloc (.cells #[.int .i64 lo, .int .i64 hi] 85)).drew := (below_alloc _ _).drew
        have hownA := book_owns hown (grown_none hbl) (fun r e => by cases e)
        have hvn : ∀ k, k < wc.heap.size → some k ≠ (Value.slice va j vc).ownBlock := fun k hk e => by have := (hown.lt _ e.symm).1; omega
        have HST : Hid (∀ (w5 : World), (wr.alloc (.cells #[.int .i64 lo, .int .i64 hi] 85)).drew.grownBy w5 (Value.slice va j vc).ownBlock → w5.rowIs q 78 3 (row3 (.slice a ns ac) (.int .i64 g) (.slice va j vc)) ∧ Below W1.heap.size W1 w5 ∧ (∀ k, k < wc.heap.size → k ≠ q → w5.heap[k]? = wc.heap[k]?) ∧ wc.heap.size ≤ w5.heap.size ∧ w5.cell? ⟨w.heap.size, 2, none⟩ = some (.slice (some ⟨b1, o1, none⟩) ms mc) ∧ w5.cell? ⟨b1, o1 + j * 2, none⟩ = some (.int .i64 lo) ∧ w5.cell? ⟨b1, o1 + j * 2 + 1, none⟩ = some (.int .i64 hi)) := hid (fun w5 hg => by
          have hbB : Below W1.heap.size W1 (wr.alloc (.cells #[.int .i64 lo, .int .i64 hi] 85)).drew := hBr.trans (hbl.mono hBr.size)
          refine ⟨(hro'.of_block (hbl.block _ hro'.lt)).of_block (hg.block _ (by have := hbl.size; omega) (hvn q qlt)), hbB.grown hg hbB.size (fun r e => by have := (hownA.lt r e).1; omega), fun k hk hne => ?_, by have := hg.size; have := hbl.size; omega, ?_, ?_, ?_⟩
          · rw [hg.block k (by have := hbl.size; omega) (hvn k hk), hbl.block k (by omega)]
            exact HK.out k hk hne
          · exact cell_kept hg (hvn _ (by omega)) (cell_grown hbl q2)
          · exact cell_kept hg (hvn _ (by omega)) (cell_grown hbl c1)
          · exact cell_kept hg (hvn _ (by omega)) (cell_grown hbl c2))
        go_upto_region 5 with fail
        refine wp_region_held_drew (S := (fun w' : World => w'.cell? ⟨w.heap.size, 2, none⟩ = some (.slice (some ⟨b1, o1, none⟩) ms mc) ∧ w'.cell? ⟨b1, o1 + j * 2, none⟩ = some (.int .i64 lo) ∧ w'.cell? ⟨b1, o1 + j * 2 + 1, none⟩ = some (.int .i64 hi))) (by kernel_rfl) ?_ (fun hHeld => ?_)
        · exact ⟨cell_grown hBr0 q2, cell_grown hBr0 c1, cell_grown hBr0 c2⟩
        refine wpAnyH_take (i := 0) (oi := _) (v := ?_) rfl (by kernel_rfl) (by kernel_rfl) (by kernel_rfl) (fun _ _ _ h => h) (Or.inl ⟨by rfl, ?_⟩) (by assumption) ?_
        rotate_left 1
        · intro w hSw
          (try dsimp only at hSw)
          go_simp
          all_goals (with_reducible rfl)
        try simp only [Act.put, List.setIfInBounds_toArray, List.set_cons_zero, List.set_cons_succ]
        refine wpAnyH_take (i := 2) (oi := _) (v := ?_) rfl (by kernel_rfl) (by kernel_rfl) (by kernel_rfl) (fun _ _ _ h => h) (Or.inl ⟨by rfl, ?_⟩) (by assumption) ?_
        rotate_left 1
        · intro w hSw
          (try dsimp only at hSw)
          go_simp
          all_goals (with_reducible rfl)
        try simp only [Act.put, List.setIfInBounds_toArray, List.set_cons_zero, List.set_cons_succ]
        refine wpAnyH_take (i := 3) (oi := _) (v := ?_) rfl (by kernel_rfl) (by kernel_rfl) (by kernel_rfl) (fun _ _ _ h => h) (Or.inl ⟨by rfl, ?_⟩) (by assumption) ?_
        rotate_left 1
        · intro w hSw
          (try dsimp only at hSw)
          go_simp
          all_goals (with_reducible rfl)
        try simp only [Act.put, List.setIfInBounds_toArray, List.set_cons_zero, List.set_cons_succ]
        refine wpAnyH_take (i := 4) (oi := _) (v := ?_) rfl (by kernel_rfl) (by kernel_rfl) (by kernel_rfl) (fun _ _ _ h => h) (Or.inl ⟨by rfl, ?_⟩) (by assumption) ?_
        rotate_left 1
        · intro w hSw
          (try dsimp only at hSw)
          go_simp
          all_goals (with_reducible rfl)
        try simp only [Act.put, List.setIfInBounds_toArray, List.set_cons_zero, List.set_cons_succ]
        refine wpAnyH_take (i := 5) (oi := _) (v := ?_) rfl (by kernel_rfl) (by kernel_rfl) (by kernel_rfl) (fun _ _ _ h => h) (Or.inl ⟨by rfl, ?_⟩) (by assumption) ?_
        rotate_left 1
        · intro w hSw
          (try dsimp only at hSw)
          go_simp
          all_goals (with_reducible rfl)
        try simp only [Act.put, List.setIfInBounds_toArray, List.set_cons_zero, List.set_cons_succ]
        refine wpAnyH_take (i := 6) (oi := _) (v := ?_) rfl (by kernel_rfl) (by kernel_rfl) (by kernel_rfl) (fun _ _ _ h => h) (Or.inl ⟨by rfl, ?_⟩) (by assumption) ?_
        rotate_left 1
        · intro w hSw
          (try dsimp only at hSw)
          go_simp
          all_goals (with_reducible rfl)
        try simp only [Act.put, List.setIfInBounds_toArray, List.set_cons_zero, List.set_cons_succ]
        refine wpAnyH_take (i := 7) (oi := _) (v := ?_) rfl (by kernel_rfl) (by kernel_rfl) (by kernel_rfl) (fun _ _ _ h => h) (Or.inl ⟨by rfl, ?_⟩) (by assumption) ?_
        rotate_left 1
        · intro w hSw
          (try dsimp only at hSw)
          go_simp
          all_goals (with_reducible rfl)
        try simp only [Act.put, List.setIfInBounds_toArray, List.set_cons_zero, List.set_cons_succ]
        refine wpAnyH_take (i := 8) (oi := _) (v := ?_) rfl (by kernel_rfl) (by kernel_rfl) (by kernel_rfl) (fun _ _ _ h => h) (Or.inl ⟨by rfl, ?_⟩) (by assumption) ?_
        rotate_left 1
        · intro w hSw
          (try dsimp only at hSw)
          go_simp
          all_goals (with_reducible rfl)
        try simp only [Act.put, List.setIfInBounds_toArray, List.set_cons_zero, List.set_cons_succ]
        refine wpAnyH_take (i := 9) (oi := _) (v := ?_) rfl (by kernel_rfl) (by kernel_rfl) (by kernel_rfl) (fun _ _ _ h => h) (Or.inl ⟨by rfl, ?_⟩) (by assumption) ?_
        rotate_left 1
        · intro w hSw
          (try dsimp only at hSw)
          go_simp
          all_goals (with_reducible rfl)
        try simp only [Act.put, List.setIfInBounds_toArray, List.set_cons_zero, List.set_cons_succ]
        refine wpAnyH_take (i := 10) (oi := _) (v := ?_) rfl (by kernel_rfl) (by kernel_rfl) (by kernel_rfl) (fun _ _ _ h => h) (Or.inl ⟨by rfl, ?_⟩) (by assumption) ?_
        rotate_left 1
        · intro w hSw
          (try dsimp only at hSw)
          go_simp
          all_goals (with_reducible rfl)
        try simp only [Act.put, List.setIfInBounds_toArray, List.set_cons_zero, List.set_cons_succ]
        refine wpAnyH_take (i := 11) (oi := _) (v := ?_) rfl (by kernel_rfl) (by kernel_rfl) (by kernel_rfl) (fun _ _ _ h => h) (Or.inl ⟨by rfl, ?_⟩) (by assumption) ?_
        rotate_left 1
        · intro w hSw
          (try dsimp only at hSw)
          go_simp
          all_goals (with_reducible rfl)
        try simp only [Act.put, List.setIfInBounds_toArray, List.set_cons_zero, List.set_cons_succ]
        refine wpAnyH_take (i := 12) (oi := _) (v := ?_) rfl (by kernel_rfl) (by kernel_rfl) (by kernel_rfl) (fun _ _ _ h => h) (Or.inl ⟨by rfl, ?_⟩) (by assumption) ?_
        rotate_left 1
        · intro w hSw
          (try dsimp only at hSw)
          go_simp
          all_goals (with_reducible rfl)
        try simp only [Act.put, List.setIfInBounds_toArray, List.set_cons_zero, List.set_cons_succ]
        refine wpAnyH_take (i := 13) (oi := _) (v := ?_) rfl (by kernel_rfl) (by kernel_rfl) (by kernel_rfl) (fun _ _ _ h => h) (Or.inl ⟨by rfl, ?_⟩) (by assumption) ?_
        rotate_left 1
        · intro w hSw
          (try dsimp only at hSw)
          go_simp
          all_goals (with_reducible rfl)
        try simp only [Act.put, List.setIfInBounds_toArray, List.set_cons_zero, List.set_cons_succ]
        refine wpAnyH_take (i := 14) (oi := _) (v := ?_) rfl (by kernel_rfl) (by kernel_rfl) (by kernel_rfl) (fun _ _ _ h => h) (Or.inl ⟨by rfl, ?_⟩) (by assumption) ?_
        rotate_left 1
        · intro w hSw
          (try dsimp only at hSw)
          go_simp
          all_goals (with_reducible rfl)
        try simp only [Act.put, List.setIfInBounds_toArray, List.set_cons_zero, List.set_cons_succ]
        refine wpAnyH_ready (rs := [1, 15]) (by kernel_rfl) (by simp) ?_
        refine AllReadyH.cons (o := _) rfl (fun K hK => ?_) ?_
        · go_simp
          refine hK.out _ _ ?_ (fun hHeld => ?_)
          · exact ⟨cell_grown hBr0 q2, cell_grown hBr0 c1, cell_grown hBr0 c2⟩
          clear hK K
          try simp only [Act.put, List.setIfInBounds_toArray, List.set_cons_zero, List.set_cons_succ]
          refine wpAnyH_ready (rs := [15]) (by kernel_rfl) (by simp) ?_
          refine AllReadyH.cons (o := _) rfl (fun K hK => ?_) ?_
          · go_simp
            refine hK.out _ _ ?_ (fun hHeld => ?_)
            · exact ⟨cell_grown hbl q2, cell_grown hbl c1, cell_grown hbl c2⟩
            clear hK K
            try simp only [Act.put, List.setIfInBounds_toArray, List.set_cons_zero, List.set_cons_succ]
            refine wpAnyH_ready (rs := [16]) (by kernel_rfl) (by simp) ?_
            refine AllReadyH.cons (o := _) rfl (fun K hK => ?_) ?_
            · refine step_append_at' rfl _ _ 74 rfl wc.heap.size 85 i0 (.agg #[.int .i64 0, .int .i64 0]) 2 16 Try.underlying74 hi0 hz0 hz1 hz2 rfl (by decide) _ j _ rfl hownA ⟨wr.heap.size, 0, none⟩ 1 1 [.int .i64 lo, .int .i64 hi] rfl rfl (pair_new wr _ _ 85) (by simp [Value.oneCell']) (by unfold maxLen; omega) (by omega) (by have := hbl.size; omega) ?_
              intro v' w5 hown' hgrow hat
              obtain ⟨hro5, hb5, hfr5, hs5, e2, e3, e4⟩ := HST.out _ hgrow
              have x2 := hro5.cell (i := 2) (by decide)
              have f2 := hro5.frozen 2
              have gq5 := hro5.lt
              simp only [row3] at x2
              obtain ⟨va2, vc2, rfl⟩ := owns_shape hown'
              refine hK.out _ _ ?_ (fun hHeld => ?_)
              · exact ⟨e2, e3, e4⟩
              clear hK K
              try simp only [Act.put, List.setIfInBounds_toArray, List.set_cons_zero, List.set_cons_succ]
              refine wpAnyH_take (i := 17) (oi := _) (v := ?_) rfl (by kernel_rfl) (by kernel_rfl) (by kernel_rfl) (fun _ _ _ h => h) (Or.inl ⟨by rfl, ?_⟩) (by assumption) ?_
              rotate_left 1
              · intro w hSw
                (try dsimp only at hSw)
                go_simp
                all_goals (with_reducible rfl)
              try simp only [Act.put, List.setIfInBounds_toArray, List.set_cons_zero, List.set_cons_succ]
              refine wpAnyH_ready (rs := [18]) (by kernel_rfl) (by simp) ?_
              refine AllReadyH.cons (o := _) rfl (fun K hK => ?_) ?_
              · go_simp
                refine hK.out _ _ ?_ (fun hHeld => ?_)
                · exact ⟨cell_set1 (by omega) e2, cell_set1 (by omega) e3, cell_set1 (by omega) e4⟩
                clear hK K
                try simp only [Act.put, List.setIfInBounds_toArray, List.set_cons_zero, List.set_cons_succ]
                refine wpAnyH_done (by kernel_rfl) ?_ _
                go_wp2_with fail
                go_roundw
                case rel => exact ⟨j + 1, .slice va2 (j + 1) vc2, by omega, by go_num, row3_set2 _ hro5, by rw [HV.out, flatP_append]; exact ownsRow_setCell_below hown' (by show q < wc.heap.size; omega) _, hid (fun k hk hne => by rw [Below.heap_setCell _ _ _ _ hne]; exact hfr5 k hk hne), hb5.setCell (p := ⟨q, 2, none⟩) hq1 _, by simp; omega⟩
                case measure => simp [intOf]; omega
              exact AllReadyH.nil
            exact AllReadyH.nil
          exact AllReadyH.nil
        refine AllReadyH.cons (o := _) rfl (fun K hK => ?_) ?_
        · go_simp
          refine hK.out _ _ ?_ (fun hHeld => ?_)
          · exact ⟨cell_grown hbl q2, cell_grown hbl c1, cell_grown hbl c2⟩
          clear hK K
          try simp only [Act.put, List.setIfInBounds_toArray, List.set_cons_zero, List.set_cons_succ]
          refine wpAnyH_ready (rs := [1]) (by kernel_rfl) (by simp) ?_
          refine AllReadyH.cons (o := _) rfl (fun K hK => ?_) ?_
          · go_simp
            refine hK.out _ _ ?_ (fun hHeld => ?_)
            · exact ⟨cell_grown hbl q2, cell_grown hbl c1, cell_grown hbl c2⟩
            clear hK K
            try simp only [Act.put, List.setIfInBounds_toArray, List.set_cons_zero, List.set_cons_succ]
            refine wpAnyH_ready (rs := [16]) (by kernel_rfl) (by simp) ?_
            refine AllReadyH.cons (o := _) rfl (fun K hK => ?_) ?_
            · refine step_append_at' rfl _ _ 74 rfl wc.heap.size 85 i0 (.agg #[.int .i64 0, .int .i64 0]) 2 16 Try.underlying74 hi0 hz0 hz1 hz2 rfl (by decide) _ j _ rfl hownA ⟨wr.heap.size, 0, none⟩ 1 1 [.int .i64 lo, .int .i64 hi] rfl rfl (pair_new wr _ _ 85) (by simp [Value.oneCell']) (by unfold maxLen; omega) (by omega) (by have := hbl.size; omega) ?_
              intro v' w5 hown' hgrow hat
              obtain ⟨hro5, hb5, hfr5, hs5, e2, e3, e4⟩ := HST.out _ hgrow
              have x2 := hro5.cell (i := 2) (by decide)
              have f2 := hro5.frozen 2
              have gq5 := hro5.lt
              simp only [row3] at x2
              obtain ⟨va2, vc2, rfl⟩ := owns_shape hown'
              refine hK.out _ _ ?_ (fun hHeld => ?_)
              · exact ⟨e2, e3, e4⟩
              clear hK K
              try simp only [Act.put, List.setIfInBounds_toArray, List.set_cons_zero, List.set_cons_succ]
              refine wpAnyH_take (i := 17) (oi := _) (v := ?_) rfl (by kernel_rfl) (by kernel_rfl) (by kernel_rfl) (fun _ _ _ h => h) (Or.inl ⟨by rfl, ?_⟩) (by assumption) ?_
              rotate_left 1
              · intro w hSw
                (try dsimp only at hSw)
                go_simp
                all_goals (with_reducible rfl)
              try simp only [Act.put, List.setIfInBounds_toArray, List.set_cons_zero, List.set_cons_succ]
              refine wpAnyH_ready (rs := [18]) (by kernel_rfl) (by simp) ?_
              refine AllReadyH.cons (o := _) rfl (fun K hK => ?_) ?_
              · go_simp
                refine hK.out _ _ ?_ (fun hHeld => ?_)
                · exact ⟨cell_set1 (by omega) e2, cell_set1 (by omega) e3, cell_set1 (by omega) e4⟩
                clear hK K
                try simp only [Act.put, List.setIfInBounds_toArray, List.set_cons_zero, List.set_cons_succ]
                refine wpAnyH_done (by kernel_rfl) ?_ _
                go_wp2_with fail
                go_roundw
                case rel => exact ⟨j + 1, .slice va2 (j + 1) vc2, by omega, by go_num, row3_set2 _ hro5, by rw [HV.out, flatP_append]; exact ownsRow_setCell_below hown' (by show q < wc.heap.size; omega) _, hid (fun k hk hne => by rw [Below.heap_setCell _ _ _ _ hne]; exact hfr5 k hk hne), hb5.setCell (p := ⟨q, 2, none⟩) hq1 _, by simp; omega⟩
                case measure => simp [intOf]; omega
              exact AllReadyH.nil
            exact AllReadyH.nil
          exact AllReadyH.nil
        exact AllReadyH.nil
      · have hjn : j = ms := by omega
        subst hjn
        rw [HFI.out] at hown
        have x0 := hro'.cell (i := 0) (by decide)
        have x1 := hro'.cell (i := 1) (by decide)
        have x2 := hro'.cell (i := 2) (by decide)
        have gq := hro'.lt
        simp only [row3] at x0 x1 x2
        have hr2' := hr2.of_block (hBr.block _ hr2.lt)
        have y0 := hr2'.cell (i := 0) (by decide)
        have y1 := hr2'.cell (i := 1) (by decide)
        have y2 := hr2'.cell (i := 2) (by decide)
        have f0 := hr2'.frozen 0
        have f1 := hr2'.frozen 1
        have f2 := hr2'.frozen 2
        have gr := hr2'.lt
        have gr0 := hr2.lt
        simp only [row3] at y0 y1 y2
        go_wp2_with fail
        have row := set3_row (.slice a ns ac) (.int .i64 g) (.slice va j vc) hr2'
        have hbz : Below w.heap.size w (set3 wr (w.heap.size + 1) (.slice a ns ac) (.int .i64 g) (.slice va j vc)) := set3_below _ _ _ (hB1.trans (hBr.mono hB1.size)) (by omega)
        have hoz : (set3 wr (w.heap.size + 1) (.slice a ns ac) (.int .i64 g) (.slice va j vc)).ownsRow wc.heap.size 85 2 (.slice va j vc) j (flatP s.needs) := ownsRow_setCell_below (ownsRow_setCell_below (ownsRow_setCell_below hown (by show w.heap.size + 1 < wc.heap.size; omega) _) (by show w.heap.size + 1 < wc.heap.size; omega) _) (by show w.heap.size + 1 < wc.heap.size; omega) _
        have hiz : IntsAt (set3 wr (w.heap.size + 1) (.slice a ns ac) (.int .i64 g) (.slice va j vc)) a s.starts := ints_set3 (fun ad e => by have := (HFA.out ad e).2.2; omega) (fun i hi => by
          obtain ⟨c, off, ea, hc⟩ := HIA.out i hi
          obtain ⟨k1, k2, k3⟩ := HFA.out _ ea
          exact ⟨c, off, ea, (World.cell?_of_block (w := wc) (a := ⟨c, off + i, none⟩) (HK.out _ k2 k1)).trans hc⟩)
        show bodyPost Try.prog Try.f39 _ Exit.ret _ (set3 wr (w.heap.size + 1) (.slice a ns ac) (.int .i64 g) (.slice va j vc))
        generalize set3 wr (w.heap.size + 1) (.slice a ns ac) (.int .i64 g) (.slice va j vc) = WF at row hbz hoz hiz ⊢
        have z0 : WF.cell? ⟨w.heap.size + 1, 0, none⟩ = some (.slice a ns ac) := row.cell (i := 0) (by decide)
        have z1 : WF.cell? ⟨w.heap.size + 1, 1, none⟩ = some (.int .i64 g) := row.cell (i := 1) (by decide)
        have z2 : WF.cell? ⟨w.heap.size + 1, 2, none⟩ = some (.slice va j vc) := row.cell (i := 2) (by decide)
        exact bodyPost_ret (v := .agg #[.slice a ns ac, .int .i64 g, .slice va j vc]) (by simp [results, Try.f39, go_sem, z0, z1, z2]) rfl ⟨a, ac, va, vc, wc.heap.size, rfl, hiz, hoz, by have := hB1.size; omega, fun ad e => (HFA.out ad e).2.1, hbz⟩

end Go.Proofs.Ytohahlnhbppnhaa
