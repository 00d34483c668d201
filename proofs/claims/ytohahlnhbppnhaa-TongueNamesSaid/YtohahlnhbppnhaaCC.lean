/- Tongue, the reference: the least cost, and the best match. -/
import Derived.Test.YtohahlnhbppnhaaCB
import Derived.Test.YtohahlnhbppnhaaBA
namespace Go.Proofs.Ytohahlnhbppnhaa
open Go.RowKit
set_option linter.unusedSimpArgs false
set_option linter.unusedVariables false

theorem restF_drop (L R : List Sen) (i k : Nat) (hi : i ≤ L.length) (hk : k ≤ R.length) (N : Nat) : ∀ a c, restF (L.drop i) (R.drop k) N a c = restF L R N (i + a) (k + c) := by
  induction N with
  | zero => intro a c; rfl
  | succ N ih =>
    intro a c
    have hm : movesM (L.drop i).length (R.drop k).length a c = movesM L.length R.length (i + a) (k + c) := by
      unfold movesM
      rw [List.length_drop, List.length_drop]
      refine List.filter_congr fun s _ => ?_
      unfold fitsM
      congr 1
      · rw [decide_eq_decide]; omega
      · rw [decide_eq_decide]; omega
    have hp : ∀ s, priceAt (L.drop i) (R.drop k) a c s = priceAt L R (i + a) (k + c) s := fun s => by
      unfold priceAt
      rw [List.drop_drop, List.drop_drop]
    unfold restF
    rw [hm]
    refine congrArg minL (List.map_congr_left fun s _ => ?_)
    rw [ih, hp, Nat.add_assoc, Nat.add_assoc]

theorem restM_drop (L R : List Sen) (i k : Nat) (hi : i ≤ L.length) (hk : k ≤ R.length) : restM (L.drop i) (R.drop k) 0 0 = restM L R i k := by
  unfold restM
  rw [restF_drop L R i k hi hk, List.length_drop, List.length_drop]
  simp

theorem FineR.drop {T : List Sen} (h : FineR T) (i : Nat) : FineR (T.drop i) :=
  ⟨fun s hs => h.ok s (List.mem_of_mem_drop hs), fun s hs => h.once s (List.mem_of_mem_drop hs), fun s hs => h.few s (List.mem_of_mem_drop hs)⟩

set_option maxRecDepth 100000 in
set_option maxHeartbeats 1000000 in
theorem least_any' (L R : List Sen) (n m nc mc : Nat) (la ra : Option Addr) (w : World) (hL : L.length = n) (hR : R.length = m) (hn : n ≤ 20) (hm : m ≤ 20) (hnc : n ≤ nc) (hmc : m ≤ mc) (fL : FineR L) (fR : FineR R) (hS : TextAt w la L) (hT : TextAt w ra R) :
    Calls Try.prog 55 #[.slice la n nc, .slice ra m mc] w fun e w' => e = .returned (.int .i64 (restM L R 0 0)) ∧ Below w.heap.size w w' := by
  have hp := refProof_any L R n m nc mc la ra w hL hR hn hm hnc hmc fL fR hS hT
  have hh := half_end fL.ok fR.ok
  rw [hL, hR] at hh
  have HH := hid hh
  clear hL hR hS hT fL fR hh
  go_enter Try.func55, Try.ntmps55
  have i1 : (n : Int) < ((n + 1 : Nat) : Int) := by omega
  have i2 : (n : Int) < (n : Int) + 1 := by omega
  have i3 : (m : Int) < ((m + 1 : Nat) : Int) := by omega
  have i4 : (m : Int) < (m : Int) + 1 := by omega
  go_wp2_with (first | (go_at_call 34; refine hp.mono ?_; rintro e wq ⟨pa, pc, g, rfl, hG, hq⟩; obtain ⟨b, ea, c0, c1⟩ := hG.read (i := n) (by omega); replace c1 := c1 m (by omega); rw [HH.out] at c1; subst ea; have g0 := lt_of_cell c0; have g1 := lt_of_cell c1))
  go_ret
  exact ⟨rfl, hq⟩

theorem least_drop (L R : List Sen) (i k n m nc mc : Nat) (la ra : Option Addr) (w : World) (hL : L.length = n) (hR : R.length = m) (hn : n ≤ 20) (hm : m ≤ 20) (hnc : n ≤ nc) (hmc : m ≤ mc) (fL : FineR L) (fR : FineR R) (hS : TextAt w la L) (hT : TextAt w ra R) (hi : i ≤ n) (hk : k ≤ m) :
    Calls Try.prog 55 #[.slice (subA la nc i 2) (n - i) (nc - i), .slice (subA ra mc k 2) (m - k) (mc - k)] w fun e w' => e = .returned (.int .i64 (restM L R i k)) ∧ Below w.heap.size w w' := by
  have hS' := hS.part hL hnc i (n - i) (by omega)
  have hT' := hT.part hR hmc k (m - k) (by omega)
  rw [List.take_of_length_le (by rw [List.length_drop]; omega)] at hS' hT'
  have h := least_any' (L.drop i) (R.drop k) (n - i) (m - k) (nc - i) (mc - k) (subA la nc i 2) (subA ra mc k 2) w (by rw [List.length_drop, hL]) (by rw [List.length_drop, hR]) (by omega) (by omega) (by omega) (by omega) (fL.drop i) (fR.drop k) hS' hT'
  rw [restM_drop L R i k (by omega) (by omega)] at h
  exact h

/-- The first step that fits. -/
theorem first_fit (L R : List Sen) (i k t : Nat) (ht : t < 5) (h1 : i + (kinds.getD t (0, 0)).1 ≤ L.length) (h2 : k + (kinds.getD t (0, 0)).2 ≤ R.length) (hf : fitM L R i k (kinds.getD t (0, 0)) = true)
    (hpre : ∀ u, u < t → i + (kinds.getD u (0, 0)).1 ≤ L.length → k + (kinds.getD u (0, 0)).2 ≤ R.length → fitM L R i k (kinds.getD u (0, 0)) = false) :
    bestM L R i k = kinds.getD t (0, 0) :: bestM L R (i + (kinds.getD t (0, 0)).1) (k + (kinds.getD t (0, 0)).2) := by
  have hk : kinds = kinds.take t ++ kinds.getD t (0, 0) :: kinds.drop (t + 1) := by
    have hlt : t < kinds.length := by simp [kinds]; omega
    conv => lhs; rw [← List.take_append_drop t kinds, List.drop_eq_getElem_cons hlt]
    rw [List.getD_eq_getElem?_getD, List.getElem?_eq_getElem hlt]
    rfl
  have hm : movesM L.length R.length i k = (kinds.take t).filter (fitsM L.length R.length i k) ++ kinds.getD t (0, 0) :: (kinds.drop (t + 1)).filter (fitsM L.length R.length i k) := by
    unfold movesM
    conv => lhs; rw [hk]
    rw [List.filter_append, List.filter_cons_of_pos (by simp only [fitsM, Bool.and_eq_true, decide_eq_true_eq]; exact ⟨h1, h2⟩)]
  refine bestM_step hm (fun s hs => ?_) hf
  obtain ⟨hs1, hs2⟩ := List.mem_filter.1 hs
  simp only [fitsM, Bool.and_eq_true, decide_eq_true_eq] at hs2
  obtain ⟨u, hu, rfl⟩ := List.mem_iff_getElem.1 hs1
  have hu2 : u < t := by rw [List.length_take] at hu; omega
  have hlt : u < kinds.length := by simp [kinds]; omega
  have e : (kinds.take t)[u] = kinds.getD u (0, 0) := by
    rw [List.getElem_take, List.getD_eq_getElem?_getD, List.getElem?_eq_getElem hlt]
    rfl
  rw [e] at hs2 ⊢
  exact hpre u hu2 hs2.1 hs2.2

theorem kind_idx {s : Nat × Nat} (h : s ∈ kinds) : ∃ u, u < 5 ∧ kinds.getD u (0, 0) = s := by
  simp only [kinds, List.mem_cons, List.not_mem_nil, or_false] at h
  rcases h with rfl | rfl | rfl | rfl | rfl
  · exact ⟨0, by omega, rfl⟩
  · exact ⟨1, by omega, rfl⟩
  · exact ⟨2, by omega, rfl⟩
  · exact ⟨3, by omega, rfl⟩
  · exact ⟨4, by omega, rfl⟩

theorem some_fit (L R : List Sen) (i k : Nat) (hi : i ≤ L.length) (hk : k ≤ R.length) (h : i < L.length ∨ k < R.length) (hno : ∀ u, u < 5 → i + (kinds.getD u (0, 0)).1 ≤ L.length → k + (kinds.getD u (0, 0)).2 ≤ R.length → fitM L R i k (kinds.getD u (0, 0)) = false) : False := by
  obtain ⟨s, hs, hf⟩ := fit_exists L R i k hi hk (moves_ne hi hk (by omega))
  unfold movesM at hs
  obtain ⟨h1, h2⟩ := List.mem_filter.1 hs
  simp only [fitsM, Bool.and_eq_true, decide_eq_true_eq] at h2
  obtain ⟨u, hu5, rfl⟩ := kind_idx h1
  rw [hno u hu5 h2.1 h2.2] at hf
  cases hf

theorem best_none (L R : List Sen) : bestM L R L.length R.length = [] := bestM_end (moves_none (by omega))

theorem flatS_pairs (l : List (Nat × Nat)) : flatS l = flatP (pairsI l) := by
  induction l with
  | nil => rfl
  | cons x l ih => simp [flatS, flatP, pairsI, ih]

theorem slice22l (a : Option Addr) (n cap l : Nat) (h1 : l ≤ n) (W : World) :
    (Instr.slice 22 (.slice a n cap) (some (.int .i64 (l : Int))) none none).run Try.prog W = .ok (.slice (subA a cap l 2) (n - l) (cap - l)) W := by
  rw [run_slice_l (t := 22) (a := a) (len := n) (cap := cap) (ht := by rw [Try.elem22]; exact Try.underlying22) (kl := .i64) (l := (l : Int)) (h0 := by omega) (h1 := by omega)]
  have hs : (sizeOf (Try.prog.elem 22)).run Try.prog W = .ok 2 W := by rw [Try.elem22]; exact Try.sizeOf103 W
  rw [hs]
  simp only [Result.andThen, sliced, Int.toNat_natCast]
  rfl

set_option maxRecDepth 100000 in
set_option maxHeartbeats 2000000 in
theorem refMatch_any (L R : List Sen) (n m nc mc : Nat) (la ra : Option Addr) (w : World) (hL : L.length = n) (hR : R.length = m) (hn : n ≤ 20) (hm : m ≤ 20) (hnc : n ≤ nc) (hmc : m ≤ mc) (fL : FineR L) (fR : FineR R) (hS : TextAt w la L) (hT : TextAt w ra R) :
    Calls Try.prog 21 #[.slice la n nc, .slice ra m mc] w fun e w' => ∃ a c, e = .returned (.slice a (bestM L R 0 0).length c) ∧ PairsAt w' a (pairsI (bestM L R 0 0)) ∧ Below w.heap.size w w' := by
  obtain ⟨i0, hi0, hz0, hz1, hz2⟩ := info_parts Try.info37
  have hko := kinds_one
  have hle : ∀ i k W, i ≤ n → k ≤ m → Below w.heap.size w W → Calls Try.prog 55 #[.slice (subA la nc i 2) (n - i) (nc - i), .slice (subA ra mc k 2) (m - k) (mc - k)] W fun e w' => e = .returned (.int .i64 (restM L R i k)) ∧ Below W.heap.size W w' := fun i k W h1 h2 hb => least_drop L R i k n m nc mc la ra W hL hR hn hm hnc hmc fL fR (hS.grown hb) (hT.grown hb) h1 h2
  have hpr : ∀ (a c X Y : Nat) (W : World), (X, Y) ∈ kinds → a + X ≤ n → c + Y ≤ m → Below w.heap.size w W → Calls Try.prog 57 #[.slice (subA la nc a 2) X (nc - a), .slice (subA ra mc c 2) Y (mc - c)] W fun e w' => e = .returned (.int .i64 (priceAt L R a c (X, Y) : Nat)) ∧ Below W.heap.size W w' := fun a c X Y W hk h1 h2 hb => by
    have l1 := part_len hL h1
    have l2 := part_len hR h2
    have h := refPrice_any ((L.drop a).take X) ((R.drop c).take Y) X (nc - a) Y (mc - c) (subA la nc a 2) (subA ra mc c 2) W l1 (by omega) (fL.part a X).few (by omega) ((hS.grown hb).part hL hnc a X h1) l2 (by omega) (fR.part c Y).few (by omega) ((hT.grown hb).part hR hmc c Y h2)
    rw [refPrice_is (fL.part a X).ok (fR.part c Y).ok (fL.part a X).once (fR.part c Y).once hk l1 l2] at h
    exact h
  have hsl : ∀ (a e X : Nat) W, a + X = e → e ≤ n → (Instr.slice 22 (.slice la n nc) (some (.int .i64 (a : Int))) (some (.int .i64 (e : Int))) none).run Try.prog W = .ok (.slice (subA la nc a 2) X (nc - a)) W := fun a e X W h1 h2 => by
    have h := slice22 la n nc a e (by omega) (by omega) W
    rw [show e - a = X by omega] at h
    exact h
  have hsr : ∀ (a e X : Nat) W, a + X = e → e ≤ m → (Instr.slice 22 (.slice ra m mc) (some (.int .i64 (a : Int))) (some (.int .i64 (e : Int))) none).run Try.prog W = .ok (.slice (subA ra mc a 2) X (mc - a)) W := fun a e X W h1 h2 => by
    have h := slice22 ra m mc a e (by omega) (by omega) W
    rw [show e - a = X by omega] at h
    exact h
  have htl : ∀ (a : Nat) W, a ≤ n → (Instr.slice 22 (.slice la n nc) (some (.int .i64 (a : Int))) none none).run Try.prog W = .ok (.slice (subA la nc a 2) (n - a) (nc - a)) W := fun a W h => slice22l la n nc a h W
  have htr : ∀ (a : Nat) W, a ≤ m → (Instr.slice 22 (.slice ra m mc) (some (.int .i64 (a : Int))) none none).run Try.prog W = .ok (.slice (subA ra mc a 2) (m - a) (mc - a)) W := fun a W h => slice22l ra m mc a h W
  have HPL : Hid (∀ a c s, priceAt L R a c s ≤ 2060) := hid (fun a c s => priceM_le _ _ _ _)
  have HRB : Hid (∀ i k, 0 ≤ restM L R i k ∧ restM L R i k ≤ 82400) := hid (restM_20 (by omega) (by omega))
  have HFF := hid (first_fit L R)
  have HSF := hid (some_fit L R)
  have HBN : Hid (bestM L R n m = []) := hid (by rw [← hL, ← hR]; exact best_none L R)
  have HBL : Hid ((bestM L R 0 0).length ≤ 40) := hid (by have := best_length L R; omega)
  rw [hL, hR] at HFF HSF
  have hFM : ∀ i k s, fitM L R i k s = decide ((priceAt L R i k s : Int) + restM L R (i + s.1) (k + s.2) = restM L R i k) := fun _ _ _ => rfl
  have HFM := hid hFM
  clear hL hR hS hT fL fR hFM
  go_enter Try.func21, Try.ntmps21
  go_wp2_with fail
  go_loopw [5, 6, 7, 8, 9, 10] (fun ov iv kv _ _ _ wr => ∃ (D : List (Nat × Nat)) (i k : Nat), i ≤ n ∧ k ≤ m ∧ iv = .int .i64 i ∧ kv = .int .i64 k ∧ Hid (D ++ bestM L R i k = bestM L R 0 0) ∧ wr.ownsRow w.heap.size 37 2 ov D.length (flatS D) ∧ Below w.heap.size w wr) (fun _ iv kv _ _ _ _ => (n - (intOf iv).toNat) + (m - (intOf kv).toNat))
  case atStart => exact ⟨[], 0, 0, Nat.zero_le _, Nat.zero_le _, rfl, rfl, hid rfl, World.ownsRow_nil _ _ _ _, Below.refl _ _⟩
  case round =>
    obtain ⟨D, i, k, hi, hk, rfl, rfl, HD, hown, hB⟩ := hrel
    obtain ⟨va, vc, rfl⟩ := owns_shape hown
    have HDL : Hid (D.length ≤ 40) := hid (by
      have h := HBL.out
      rw [← HD.out, List.length_append] at h
      omega)
    by_cases hend : i = n ∧ k = m
    · obtain ⟨rfl, rfl⟩ := hend
      have hDe : D = bestM L R 0 0 := by
        have h := HD.out
        rw [HBN.out, List.append_nil] at h
        exact h
      have q1 : ¬ (i : Int) < (i : Int) := by omega
      have q2 : ¬ (k : Int) < (k : Int) := by omega
      go_wp2_with fail
      go_ret
      refine ⟨va, ⟨vc, by rw [← hDe]; rfl⟩, ?_, hB⟩
      rw [← hDe]
      have hl : (pairsI D).length = D.length := by simp [pairsI]
      rw [flatS_pairs] at hown
      intro x hx
      rw [hl] at hx
      rcases hown.2 with ⟨_, h0⟩ | ⟨g, cap', cur, hv, _⟩
      · omega
      · simp only [Value.slice.injEq] at hv
        obtain ⟨rfl, -, rfl⟩ := hv
        obtain ⟨e0, e1⟩ := flatP_get (pairsI D) x (by omega)
        have c0 := hown.cells (g := g) rfl _ _ e0
        have c1 := hown.cells (g := g) rfl _ _ e1
        rw [add_plain] at c0 c1
        exact ⟨g, 0, rfl, c0, by rw [Nat.add_assoc]; exact c1⟩
    · have hne : i < n ∨ k < m := by omega
      have hgo : ((decide ((i : Int) < (n : Int)) || decide ((k : Int) < (m : Int))) = true) := by simp; omega
      obtain ⟨goal, hgl⟩ : ∃ z, restM L R i k = z := ⟨_, rfl⟩
      have hca := fun W hb => hle i k W hi hk hb
      rw [hgl] at hca
      have HGL := hid hgl
      have hta := fun W => htl i W hi
      have htb := fun W => htr k W hk
      have hi0' : (0 : Int) ≤ (i : Int) := by omega
      have hk0' : (0 : Int) ≤ (k : Int) := by omega
      have hin : (i : Int) ≤ (n : Int) := by omega
      have hkm : (k : Int) ≤ (m : Int) := by omega
      clear hend hgl
      rcases (by omega : (i < n) ∨ (¬ i < n ∧ k < m)) with hlt | ⟨hlt, hlk⟩
      · have c1 : (i : Int) < (n : Int) := by omega
        go_wp2_with fail
        have hcA : ∀ p : Over wr, _ := fun p => hca p.w (below_then hB p.h)
        refine wp_region_over wr (Below.refl _ _) (by kernel_rfl) (by kernel_rfl) ?_
        repeat (go_big_quiet_step (first | (go_at_call 55; exact Calls.over_of (hcA _))))
        refine wpQuiet_nil ?_
        intro wz hw'
        have hbz := over_below hw'
        have hB2 := below_then hB hbz
        have hown2 := book_owns hown (grown_none hbz) (fun r e => by cases e)
        clear hw' hcA hca hta htb hbz
        go_wp2_with fail
        go_loopw [5, 6, 7, 9, 10] (fun ov iv kv mv _ wx => ∃ t : Nat, t ≤ 5 ∧ ov = .slice va D.length vc ∧ iv = .int .i64 i ∧ kv = .int .i64 k ∧ mv = .int .i64 t ∧ Hid (∀ u, u < t → i + (kinds.getD u (0, 0)).1 ≤ n → k + (kinds.getD u (0, 0)).2 ≤ m → fitM L R i k (kinds.getD u (0, 0)) = false) ∧ Below wz.heap.size wz wx) (fun _ _ _ mv _ _ => 5 - (intOf mv).toNat)
        case atStart => exact ⟨0, Nat.zero_le _, rfl, rfl, rfl, rfl, hid (fun u h => by omega), Below.refl _ _⟩
        case round =>
          obtain ⟨t, ht, rfl, rfl, rfl, rfl, HNO, hBx⟩ := hrel
          by_cases hl5 : t < 5
          · have hl5' : (t : Int) < 5 := by omega
            have hko1 := fun W => hko t hl5 W
            obtain ⟨u1, u2, u3, u4⟩ := kind_two t hl5
            have HFT := hid (HFF.out i k t hl5)
            have hfm := HFM.out i k (kinds.getD t (0, 0))
            have HNX : Hid (∀ s, s = kinds.getD t (0, 0) → (i + s.1 ≤ n → k + s.2 ≤ m → fitM L R i k s = false) → ∀ u, u < t + 1 → i + (kinds.getD u (0, 0)).1 ≤ n → k + (kinds.getD u (0, 0)).2 ≤ m → fitM L R i k (kinds.getD u (0, 0)) = false) := hid (fun s hs h u hu => by
              by_cases e : u = t
              · subst e; rw [← hs]; exact h
              · exact HNO.out u (by omega))
            obtain ⟨s, hs⟩ : ∃ s, kinds.getD t (0, 0) = s := ⟨_, rfl⟩
            rw [hs] at hko1 u1 u2 u3 u4 HFT hfm
            have HNX2 := hid (HNX.out s hs.symm)
            obtain ⟨x, y⟩ := s
            simp only at hko1 u1 u2 u3 HFT hfm HNX2
            have HFMX := hid hfm
            have ht0 : (0 : Int) ≤ (t : Int) := by omega
            have hlp := HPL.out i k (x, y)
            clear hs HNX hfm
            go_upto_region 9 with (first | (go_at_call 56; refine (hko1 _).mono ?_; rintro e wk ⟨kb, rfl, k0, k1, hqk⟩; have hBk := below_then hBx hqk; clear hqk))
            obtain ⟨ws, hws⟩ : ∃ X, X = wk.alloc (.cells #[.int .i64 (x : Int), .int .i64 (y : Int)] 37) := ⟨_, rfl⟩
            have hBs := below_then hBk (below_alloc wk (.cells #[.int .i64 (x : Int), .int .i64 (y : Int)] 37))
            have s0 : ws.cell? ⟨wk.heap.size, 0, none⟩ = some (.int .i64 (x : Int)) := by rw [hws]; simp [go_sem]
            have s1 : ws.cell? ⟨wk.heap.size, 1, none⟩ = some (.int .i64 (y : Int)) := by rw [hws]; simp [go_sem]
            rw [← hws] at hBs ⊢
            have gs := lt_of_cell s0
            have hKS := hBk.size
            clear hws k0 k1 hBk hBx hko1
            obtain ⟨e, he⟩ : ∃ e, i + x = e := ⟨_, rfl⟩
            obtain ⟨f, hf⟩ : ∃ f, k + y = f := ⟨_, rfl⟩
            have w1 : IntKind.i64.wrap ((i : Int) + x) = (e : Int) := by rw [IntKind.wrap_i64]; omega
            have w2 : IntKind.i64.wrap ((k : Int) + y) = (f : Int) := by rw [IntKind.wrap_i64]; omega
            rw [he, hf] at HNX2 HFT HFMX
            by_cases hx : e ≤ n
            · by_cases hy : f ≤ m
              · have hx' : ¬ (n : Int) < (e : Int) := by omega
                have hy' : ¬ (m : Int) < (f : Int) := by omega
                have hpc := fun W hb => hpr i k x y W u4 (by omega) (by omega) hb
                have hlc := fun W hb => hle e f W hx hy hb
                have hse := fun W => hsl i e x W he hx
                have hsf := fun W => hsr k f y W hf hy
                have hta := fun W => htl e W hx
                have htb := fun W => htr f W hy
                have hrb := HRB.out e f
                generalize priceAt L R i k (x, y) = pr at hlp hpc HFMX
                generalize hrv : restM L R e f = hv at hlc hrb HFMX
                have w3 : IntKind.i64.wrap ((pr : Int) + hv) = (pr : Int) + hv := by rw [IntKind.wrap_i64]; omega
                have e0 : (0 : Int) ≤ (e : Int) := by omega
                have f0 : (0 : Int) ≤ (f : Int) := by omega
                have hBw := below_then hB2 hBs
                have HE := hid he
                have HF := hid hf
                clear he hf hrv
                go_wp2_with fail
                have oa : ∀ p : Over ws, p.w.cell? ⟨wk.heap.size, 0, none⟩ = some (.int .i64 (x : Int)) := fun p => p.cell s0
                have ob' : ∀ p : Over ws, p.w.cell? ⟨wk.heap.size, 1, none⟩ = some (.int .i64 (y : Int)) := fun p => p.cell s1
                have hcA : ∀ p : Over ws, _ := fun p => hpc p.w (below_then hBw p.h)
                have hcB : ∀ p : Over ws, _ := fun p => hlc p.w (below_then hBw p.h)
                obtain ⟨bt, hbt⟩ : ∃ b, ((pr : Int) + hv == goal) = b := ⟨_, rfl⟩
                have HBT := hid hbt
                refine wp_region_over ws (Below.refl _ _) (by kernel_rfl) (by kernel_rfl) ?_
                repeat (go_big_quiet_step (first | (go_at_call 57; exact Calls.over_of (hcA _)) | (go_at_call 55; exact Calls.over_of (hcB _))))
                refine wpQuiet_nil ?_
                intro wt hw'
                have hbt2 := over_below hw'
                replace s0 := cell_grown hbt2 s0
                replace s1 := cell_grown hbt2 s1
                replace gs := lt_of_cell s0
                have hbz := below_then hBs hbt2
                clear hw' oa ob' hcA hcB w3 hse hsf hta htb hpc hlc hbt hbt2
                cases bt
                · have HNF : Hid (∀ u, u < t + 1 → i + (kinds.getD u (0, 0)).1 ≤ n → k + (kinds.getD u (0, 0)).2 ≤ m → fitM L R i k (kinds.getD u (0, 0)) = false) := hid (HNX2.out (fun _ _ => by
                    rw [HFMX.out, HGL.out, decide_eq_false_iff_not]
                    intro h
                    have hb := HBT.out
                    rw [h] at hb
                    simp at hb))
                  go_wp2_with fail
                  go_roundw
                  case rel => exact ⟨t + 1, by omega, rfl, rfl, rfl, by go_num, HNF, hbz⟩
                  case measure => simp [intOf]; omega
                · have hbest : bestM L R i k = (x, y) :: bestM L R e f := HFT.out hx hy (by rw [HFMX.out, HGL.out, decide_eq_true_eq]; simpa using HBT.out) HNO.out
                  have HD2 : Hid ((D ++ [(x, y)]) ++ bestM L R e f = bestM L R 0 0) := hid (by rw [List.append_assoc, List.singleton_append, ← hbest]; exact HD.out)
                  have hown3 := book_owns hown2 (grown_none hbz) (fun r e => by cases e)
                  have hown4 := book_owns hown3 (grown_none (below_alloc wt (.cells #[.int .i64 (x : Int), .int .i64 (y : Int)] 37))) (fun r e => by cases e)
                  have hsz := (below_then hB2 hbz).size
                  have hnew : ∀ r, (Value.slice va D.length vc).ownBlock = some r → r ≠ wk.heap.size := fun r e e2 => by
                    have h1 := (hown2.lt r e).2
                    have h2 := hKS
                    omega
                  clear hbest hown3
                  have hdl := HDL.out
                  go_upto_region 12 with (at_builtin; refine wpList_append_own_at _ rfl _ _ 32 rfl w.heap.size 37 i0 (.agg #[.int .i64 0, .int .i64 0]) 2 16 Try.underlying32 hi0 hz0 hz1 hz2 rfl (by decide) _ _ _ rfl hown4 ⟨wt.heap.size, 0, none⟩ 1 1 [.int .i64 (x : Int), .int .i64 (y : Int)] rfl rfl (pair_new wt _ _ 37) (by simp [Value.oneCell']) (by unfold maxLen; omega) (by omega) (by simp; omega) ?_; intro v' w5 hown' hgrow hnil hloc)
                  have hb5 : Below w.heap.size wt w5 := (((Below.refl w.heap.size wt).alloc (by omega) _).grown hgrow (by simp; omega) (fun r e => (hown4.lt r e).1))
                  replace s0 := cell_kept hgrow (fun e => hnew _ e.symm rfl) (cell_grown (below_alloc _ _) s0)
                  replace s1 := cell_kept hgrow (fun e => hnew _ e.symm rfl) (cell_grown (below_alloc _ _) s1)
                  replace gs := lt_of_cell s0
                  have hbf := (below_then hB2 hbz).trans hb5
                  clear hown4 hgrow hnil hloc hnew hb5 hbz
                  go_wp2_with fail
                  have oa : ∀ p : Over w5, p.w.cell? ⟨wk.heap.size, 0, none⟩ = some (.int .i64 (x : Int)) := fun p => p.cell s0
                  have ob' : ∀ p : Over w5, p.w.cell? ⟨wk.heap.size, 1, none⟩ = some (.int .i64 (y : Int)) := fun p => p.cell s1
                  refine wp_region_over w5 (Below.refl _ _) (by kernel_rfl) (by kernel_rfl) ?_
                  repeat (go_big_quiet_step (fail))
                  refine wpQuiet_nil ?_
                  intro wu hw'
                  have hbu := over_below hw'
                  have hown5 := book_owns hown' (grown_none hbu) (fun r e => by cases e)
                  have hbg := below_then hbf hbu
                  clear hw' oa ob'
                  have hme : (n - e) + (m - f) < (n - i) + (m - k) := by have h1 := HE.out; have h2 := HF.out; omega
                  go_wp2_with fail
                  go_roundw
                  case rel => exact ⟨D ++ [(x, y)], e, f, hx, hy, rfl, rfl, HD2, by rw [flatS_append, List.length_append]; exact hown5, hbg⟩
                  case measure => simp [intOf]; omega
              · have hx' : ¬ (n : Int) < (e : Int) := by omega
                have hy' : (m : Int) < (f : Int) := by omega
                have HNF : Hid (∀ u, u < t + 1 → i + (kinds.getD u (0, 0)).1 ≤ n → k + (kinds.getD u (0, 0)).2 ≤ m → fitM L R i k (kinds.getD u (0, 0)) = false) := hid (HNX2.out (fun h1 h2 => by omega))
                clear he hf
                go_wp2_with fail
                go_roundw
                case rel => exact ⟨t + 1, by omega, rfl, rfl, rfl, by go_num, HNF, hBs⟩
                case measure => simp [intOf]; omega
            · have hx' : (n : Int) < (e : Int) := by omega
              have HNF : Hid (∀ u, u < t + 1 → i + (kinds.getD u (0, 0)).1 ≤ n → k + (kinds.getD u (0, 0)).2 ≤ m → fitM L R i k (kinds.getD u (0, 0)) = false) := hid (HNX2.out (fun h1 h2 => by omega))
              clear he hf
              go_wp2_with fail
              go_roundw
              case rel => exact ⟨t + 1, by omega, rfl, rfl, rfl, by go_num, HNF, hBs⟩
              case measure => simp [intOf]; omega
          · exfalso
            have h5 : t = 5 := by omega
            subst h5
            exact HSF.out i k hi hk hne HNO.out
      · have c1 : ¬ (i : Int) < (n : Int) := by omega
        have c2 : (k : Int) < (m : Int) := by omega
        go_wp2_with fail
        have hcA : ∀ p : Over wr, _ := fun p => hca p.w (below_then hB p.h)
        refine wp_region_over wr (Below.refl _ _) (by kernel_rfl) (by kernel_rfl) ?_
        repeat (go_big_quiet_step (first | (go_at_call 55; exact Calls.over_of (hcA _))))
        refine wpQuiet_nil ?_
        intro wz hw'
        have hbz := over_below hw'
        have hB2 := below_then hB hbz
        have hown2 := book_owns hown (grown_none hbz) (fun r e => by cases e)
        clear hw' hcA hca hta htb hbz
        go_wp2_with fail
        go_loopw [5, 6, 7, 9, 10] (fun ov iv kv mv _ wx => ∃ t : Nat, t ≤ 5 ∧ ov = .slice va D.length vc ∧ iv = .int .i64 i ∧ kv = .int .i64 k ∧ mv = .int .i64 t ∧ Hid (∀ u, u < t → i + (kinds.getD u (0, 0)).1 ≤ n → k + (kinds.getD u (0, 0)).2 ≤ m → fitM L R i k (kinds.getD u (0, 0)) = false) ∧ Below wz.heap.size wz wx) (fun _ _ _ mv _ _ => 5 - (intOf mv).toNat)
        case atStart => exact ⟨0, Nat.zero_le _, rfl, rfl, rfl, rfl, hid (fun u h => by omega), Below.refl _ _⟩
        case round =>
          obtain ⟨t, ht, rfl, rfl, rfl, rfl, HNO, hBx⟩ := hrel
          by_cases hl5 : t < 5
          · have hl5' : (t : Int) < 5 := by omega
            have hko1 := fun W => hko t hl5 W
            obtain ⟨u1, u2, u3, u4⟩ := kind_two t hl5
            have HFT := hid (HFF.out i k t hl5)
            have hfm := HFM.out i k (kinds.getD t (0, 0))
            have HNX : Hid (∀ s, s = kinds.getD t (0, 0) → (i + s.1 ≤ n → k + s.2 ≤ m → fitM L R i k s = false) → ∀ u, u < t + 1 → i + (kinds.getD u (0, 0)).1 ≤ n → k + (kinds.getD u (0, 0)).2 ≤ m → fitM L R i k (kinds.getD u (0, 0)) = false) := hid (fun s hs h u hu => by
              by_cases e : u = t
              · subst e; rw [← hs]; exact h
              · exact HNO.out u (by omega))
            obtain ⟨s, hs⟩ : ∃ s, kinds.getD t (0, 0) = s := ⟨_, rfl⟩
            rw [hs] at hko1 u1 u2 u3 u4 HFT hfm
            have HNX2 := hid (HNX.out s hs.symm)
            obtain ⟨x, y⟩ := s
            simp only at hko1 u1 u2 u3 HFT hfm HNX2
            have HFMX := hid hfm
            have ht0 : (0 : Int) ≤ (t : Int) := by omega
            have hlp := HPL.out i k (x, y)
            clear hs HNX hfm
            go_upto_region 9 with (first | (go_at_call 56; refine (hko1 _).mono ?_; rintro e wk ⟨kb, rfl, k0, k1, hqk⟩; have hBk := below_then hBx hqk; clear hqk))
            obtain ⟨ws, hws⟩ : ∃ X, X = wk.alloc (.cells #[.int .i64 (x : Int), .int .i64 (y : Int)] 37) := ⟨_, rfl⟩
            have hBs := below_then hBk (below_alloc wk (.cells #[.int .i64 (x : Int), .int .i64 (y : Int)] 37))
            have s0 : ws.cell? ⟨wk.heap.size, 0, none⟩ = some (.int .i64 (x : Int)) := by rw [hws]; simp [go_sem]
            have s1 : ws.cell? ⟨wk.heap.size, 1, none⟩ = some (.int .i64 (y : Int)) := by rw [hws]; simp [go_sem]
            rw [← hws] at hBs ⊢
            have gs := lt_of_cell s0
            have hKS := hBk.size
            clear hws k0 k1 hBk hBx hko1
            obtain ⟨e, he⟩ : ∃ e, i + x = e := ⟨_, rfl⟩
            obtain ⟨f, hf⟩ : ∃ f, k + y = f := ⟨_, rfl⟩
            have w1 : IntKind.i64.wrap ((i : Int) + x) = (e : Int) := by rw [IntKind.wrap_i64]; omega
            have w2 : IntKind.i64.wrap ((k : Int) + y) = (f : Int) := by rw [IntKind.wrap_i64]; omega
            rw [he, hf] at HNX2 HFT HFMX
            by_cases hx : e ≤ n
            · by_cases hy : f ≤ m
              · have hx' : ¬ (n : Int) < (e : Int) := by omega
                have hy' : ¬ (m : Int) < (f : Int) := by omega
                have hpc := fun W hb => hpr i k x y W u4 (by omega) (by omega) hb
                have hlc := fun W hb => hle e f W hx hy hb
                have hse := fun W => hsl i e x W he hx
                have hsf := fun W => hsr k f y W hf hy
                have hta := fun W => htl e W hx
                have htb := fun W => htr f W hy
                have hrb := HRB.out e f
                generalize priceAt L R i k (x, y) = pr at hlp hpc HFMX
                generalize hrv : restM L R e f = hv at hlc hrb HFMX
                have w3 : IntKind.i64.wrap ((pr : Int) + hv) = (pr : Int) + hv := by rw [IntKind.wrap_i64]; omega
                have e0 : (0 : Int) ≤ (e : Int) := by omega
                have f0 : (0 : Int) ≤ (f : Int) := by omega
                have hBw := below_then hB2 hBs
                have HE := hid he
                have HF := hid hf
                clear he hf hrv
                go_wp2_with fail
                have oa : ∀ p : Over ws, p.w.cell? ⟨wk.heap.size, 0, none⟩ = some (.int .i64 (x : Int)) := fun p => p.cell s0
                have ob' : ∀ p : Over ws, p.w.cell? ⟨wk.heap.size, 1, none⟩ = some (.int .i64 (y : Int)) := fun p => p.cell s1
                have hcA : ∀ p : Over ws, _ := fun p => hpc p.w (below_then hBw p.h)
                have hcB : ∀ p : Over ws, _ := fun p => hlc p.w (below_then hBw p.h)
                obtain ⟨bt, hbt⟩ : ∃ b, ((pr : Int) + hv == goal) = b := ⟨_, rfl⟩
                have HBT := hid hbt
                refine wp_region_over ws (Below.refl _ _) (by kernel_rfl) (by kernel_rfl) ?_
                repeat (go_big_quiet_step (first | (go_at_call 57; exact Calls.over_of (hcA _)) | (go_at_call 55; exact Calls.over_of (hcB _))))
                refine wpQuiet_nil ?_
                intro wt hw'
                have hbt2 := over_below hw'
                replace s0 := cell_grown hbt2 s0
                replace s1 := cell_grown hbt2 s1
                replace gs := lt_of_cell s0
                have hbz := below_then hBs hbt2
                clear hw' oa ob' hcA hcB w3 hse hsf hta htb hpc hlc hbt hbt2
                cases bt
                · have HNF : Hid (∀ u, u < t + 1 → i + (kinds.getD u (0, 0)).1 ≤ n → k + (kinds.getD u (0, 0)).2 ≤ m → fitM L R i k (kinds.getD u (0, 0)) = false) := hid (HNX2.out (fun _ _ => by
                    rw [HFMX.out, HGL.out, decide_eq_false_iff_not]
                    intro h
                    have hb := HBT.out
                    rw [h] at hb
                    simp at hb))
                  go_wp2_with fail
                  go_roundw
                  case rel => exact ⟨t + 1, by omega, rfl, rfl, rfl, by go_num, HNF, hbz⟩
                  case measure => simp [intOf]; omega
                · have hbest : bestM L R i k = (x, y) :: bestM L R e f := HFT.out hx hy (by rw [HFMX.out, HGL.out, decide_eq_true_eq]; simpa using HBT.out) HNO.out
                  have HD2 : Hid ((D ++ [(x, y)]) ++ bestM L R e f = bestM L R 0 0) := hid (by rw [List.append_assoc, List.singleton_append, ← hbest]; exact HD.out)
                  have hown3 := book_owns hown2 (grown_none hbz) (fun r e => by cases e)
                  have hown4 := book_owns hown3 (grown_none (below_alloc wt (.cells #[.int .i64 (x : Int), .int .i64 (y : Int)] 37))) (fun r e => by cases e)
                  have hsz := (below_then hB2 hbz).size
                  have hnew : ∀ r, (Value.slice va D.length vc).ownBlock = some r → r ≠ wk.heap.size := fun r e e2 => by
                    have h1 := (hown2.lt r e).2
                    have h2 := hKS
                    omega
                  clear hbest hown3
                  have hdl := HDL.out
                  go_upto_region 12 with (at_builtin; refine wpList_append_own_at _ rfl _ _ 32 rfl w.heap.size 37 i0 (.agg #[.int .i64 0, .int .i64 0]) 2 16 Try.underlying32 hi0 hz0 hz1 hz2 rfl (by decide) _ _ _ rfl hown4 ⟨wt.heap.size, 0, none⟩ 1 1 [.int .i64 (x : Int), .int .i64 (y : Int)] rfl rfl (pair_new wt _ _ 37) (by simp [Value.oneCell']) (by unfold maxLen; omega) (by omega) (by simp; omega) ?_; intro v' w5 hown' hgrow hnil hloc)
                  have hb5 : Below w.heap.size wt w5 := (((Below.refl w.heap.size wt).alloc (by omega) _).grown hgrow (by simp; omega) (fun r e => (hown4.lt r e).1))
                  replace s0 := cell_kept hgrow (fun e => hnew _ e.symm rfl) (cell_grown (below_alloc _ _) s0)
                  replace s1 := cell_kept hgrow (fun e => hnew _ e.symm rfl) (cell_grown (below_alloc _ _) s1)
                  replace gs := lt_of_cell s0
                  have hbf := (below_then hB2 hbz).trans hb5
                  clear hown4 hgrow hnil hloc hnew hb5 hbz
                  go_wp2_with fail
                  have oa : ∀ p : Over w5, p.w.cell? ⟨wk.heap.size, 0, none⟩ = some (.int .i64 (x : Int)) := fun p => p.cell s0
                  have ob' : ∀ p : Over w5, p.w.cell? ⟨wk.heap.size, 1, none⟩ = some (.int .i64 (y : Int)) := fun p => p.cell s1
                  refine wp_region_over w5 (Below.refl _ _) (by kernel_rfl) (by kernel_rfl) ?_
                  repeat (go_big_quiet_step (fail))
                  refine wpQuiet_nil ?_
                  intro wu hw'
                  have hbu := over_below hw'
                  have hown5 := book_owns hown' (grown_none hbu) (fun r e => by cases e)
                  have hbg := below_then hbf hbu
                  clear hw' oa ob'
                  have hme : (n - e) + (m - f) < (n - i) + (m - k) := by have h1 := HE.out; have h2 := HF.out; omega
                  go_wp2_with fail
                  go_roundw
                  case rel => exact ⟨D ++ [(x, y)], e, f, hx, hy, rfl, rfl, HD2, by rw [flatS_append, List.length_append]; exact hown5, hbg⟩
                  case measure => simp [intOf]; omega
              · have hx' : ¬ (n : Int) < (e : Int) := by omega
                have hy' : (m : Int) < (f : Int) := by omega
                have HNF : Hid (∀ u, u < t + 1 → i + (kinds.getD u (0, 0)).1 ≤ n → k + (kinds.getD u (0, 0)).2 ≤ m → fitM L R i k (kinds.getD u (0, 0)) = false) := hid (HNX2.out (fun h1 h2 => by omega))
                clear he hf
                go_wp2_with fail
                go_roundw
                case rel => exact ⟨t + 1, by omega, rfl, rfl, rfl, by go_num, HNF, hBs⟩
                case measure => simp [intOf]; omega
            · have hx' : (n : Int) < (e : Int) := by omega
              have HNF : Hid (∀ u, u < t + 1 → i + (kinds.getD u (0, 0)).1 ≤ n → k + (kinds.getD u (0, 0)).2 ≤ m → fitM L R i k (kinds.getD u (0, 0)) = false) := hid (HNX2.out (fun h1 h2 => by omega))
              clear he hf
              go_wp2_with fail
              go_roundw
              case rel => exact ⟨t + 1, by omega, rfl, rfl, rfl, by go_num, HNF, hBs⟩
              case measure => simp [intOf]; omega
          · exfalso
            have h5 : t = 5 := by omega
            subst h5
            exact HSF.out i k hi hk hne HNO.out

end Go.Proofs.Ytohahlnhbppnhaa
