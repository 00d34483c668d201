/- Tongue, the reference: whether a table proves a cost. -/
import Derived.Test.YtohahlnhbppnhaaCB
import Derived.Test.YtohahlnhbppnhaaCH
import Derived.Test.YtohahlnhbppnhaaCG
import Derived.Test.YtohahlnhbppnhaaAI
namespace Go.Proofs.Ytohahlnhbppnhaa
open Go.RowKit
set_option linter.unusedSimpArgs false
set_option linter.unusedVariables false

def provedB (L R : List Sen) (T : List (List Int)) (n m : Nat) (cost : Int) : Bool := coversM (n + 1) (m + 1) T && provesB L R (gridF T) n m cost

theorem proved_count {L R : List Sen} {T : List (List Int)} {n m : Nat} {cost : Int} (h : T.length ≠ n + 1) : provedB L R T n m cost = false := by
  unfold provedB coversM
  rw [decide_eq_false h, Bool.false_and, Bool.false_and]

theorem proved_row {L R : List Sen} {T : List (List Int)} {n m i : Nat} {cost : Int} (hi : i < T.length) (h : okRow (m + 1) (T.getD i []) = false) : provedB L R T n m cost = false := by
  have hmem : T.getD i [] ∈ T := by
    rw [List.getD_eq_getElem?_getD, List.getElem?_eq_getElem hi]
    exact List.getElem_mem _
  unfold provedB coversM
  have : T.all (okRow (m + 1)) = false := by
    rw [← Bool.not_eq_true, List.all_eq_true]
    intro hh
    rw [hh _ hmem] at h
    cases h
  rw [this, Bool.and_false, Bool.false_and]

theorem okRow_len {M : Nat} {r : List Int} (h : r.length ≠ M) : okRow M r = false := by
  unfold okRow
  rw [decide_eq_false h, Bool.false_and]

theorem okRow_cell {M k : Nat} {r : List Int} (hk : k < r.length) (h : okN (r.getD k 0) = false) : okRow M r = false := by
  unfold okRow
  have : r.all okN = false := by
    rw [← Bool.not_eq_true, List.all_eq_true]
    intro hh
    have hm : r.getD k 0 ∈ r := by
      rw [List.getD_eq_getElem?_getD, List.getElem?_eq_getElem hk]
      exact List.getElem_mem _
    rw [hh _ hm] at h
    cases h
  rw [this, Bool.and_false]

theorem covers_true {T : List (List Int)} {n m : Nat} (ht : T.length = n + 1) (h : ∀ i, i < n + 1 → (T.getD i []).length = m + 1 ∧ ∀ k, k < m + 1 → okN (gridF T i k) = true) : coversM (n + 1) (m + 1) T = true := by
  unfold coversM
  rw [Bool.and_eq_true, decide_eq_true_eq, List.all_eq_true]
  refine ⟨ht, fun r hr => ?_⟩
  obtain ⟨i, hi, rfl⟩ := List.mem_iff_getElem.1 hr
  have e : T.getD i [] = T[i] := by rw [List.getD_eq_getElem?_getD, List.getElem?_eq_getElem hi]; rfl
  obtain ⟨h1, h2⟩ := h i (by omega)
  rw [e] at h1
  unfold okRow
  rw [Bool.and_eq_true, decide_eq_true_eq, List.all_eq_true]
  refine ⟨h1, fun z hz => ?_⟩
  obtain ⟨k, hk, rfl⟩ := List.mem_iff_getElem.1 hz
  have := h2 k (by omega)
  unfold gridF at this
  rw [e, List.getD_eq_getElem?_getD, List.getElem?_eq_getElem hk] at this
  exact this

theorem kind_move {n m i k q : Nat} (hq : q < 5) (hi : i ≤ n) (hk : k ≤ m) (h1 : (kinds.getD q (0, 0)).1 ≤ i) (h2 : (kinds.getD q (0, 0)).2 ≤ k) : kinds.getD q (0, 0) ∈ movesM n m (i - (kinds.getD q (0, 0)).1) (k - (kinds.getD q (0, 0)).2) := by
  unfold movesM
  refine List.mem_filter.2 ⟨(kind_two q hq).2.2.2, ?_⟩
  unfold fitsM
  simp only [Bool.and_eq_true, decide_eq_true_eq]
  omega

def kOk (L R : List Sen) (f : Nat → Nat → Int) (i k q : Nat) : Prop :=
  (kinds.getD q (0, 0)).1 ≤ i → (kinds.getD q (0, 0)).2 ≤ k → f i k ≤ f (i - (kinds.getD q (0, 0)).1) (k - (kinds.getD q (0, 0)).2) + (priceAt L R (i - (kinds.getD q (0, 0)).1) (k - (kinds.getD q (0, 0)).2) (kinds.getD q (0, 0)) : Int)

theorem kind_false {L R : List Sen} {f : Nat → Nat → Int} {n m i k q : Nat} (hq : q < 5) (hi : i ≤ n) (hk : k ≤ m) (h : ¬ kOk L R f i k q) : rightB L R f n m = false := by
  unfold kOk at h
  have h1 : (kinds.getD q (0, 0)).1 ≤ i := by
    rcases Nat.lt_or_ge i (kinds.getD q (0, 0)).1 with e | e
    · exact absurd (fun a _ => absurd a (by omega)) h
    · exact e
  have h2 : (kinds.getD q (0, 0)).2 ≤ k := by
    rcases Nat.lt_or_ge k (kinds.getD q (0, 0)).2 with e | e
    · exact absurd (fun _ a => absurd a (by omega)) h
    · exact e
  refine rightB_false (x := (i - (kinds.getD q (0, 0)).1, k - (kinds.getD q (0, 0)).2)) (mem_places (by omega) (by omega)) (kind_move hq hi hk h1 h2) ?_
  unfold okStep
  rw [decide_eq_false_iff_not]
  intro hh
  refine h fun _ _ => ?_
  rw [Nat.sub_add_cancel h1, Nat.sub_add_cancel h2] at hh
  exact hh

theorem kinds_get : ∀ s ∈ kinds, ∃ q, q < 5 ∧ kinds.getD q (0, 0) = s := by decide

theorem kind_all {L R : List Sen} {f : Nat → Nat → Int} {n m : Nat} (h : ∀ i, i ≤ n → ∀ k, k ≤ m → ∀ q, q < 5 → kOk L R f i k q) : rightB L R f n m = true := by
  unfold rightB
  rw [List.all_eq_true]
  intro x hx
  obtain ⟨a, b⟩ := x
  have hx' := mem_rowsM.1 hx
  simp only at hx'
  unfold okPlace
  rw [List.all_eq_true]
  intro s hs
  obtain ⟨h1, h2, -, -, -⟩ := mem_moves hs
  unfold movesM at hs
  obtain ⟨q, hq, rfl⟩ := kinds_get s (List.mem_filter.1 hs).1
  have := h (a + (kinds.getD q (0, 0)).1) h1 (b + (kinds.getD q (0, 0)).2) h2 q hq (by omega) (by omega)
  rw [Nat.add_sub_cancel, Nat.add_sub_cancel] at this
  unfold okStep
  rw [decide_eq_true_eq]
  exact this

set_option maxRecDepth 100000 in
set_option maxHeartbeats 4000000 in
theorem refProves_any (L R : List Sen) (T : List (List Int)) (cost : Int) (n m nc mc t tc : Nat) (la ra ta : Option Addr) (w : World) (hL : L.length = n) (hR : R.length = m) (hn : n ≤ 20) (hm : m ≤ 20) (hnc : n ≤ nc) (hmc : m ≤ mc) (fL : FineR L) (fR : FineR R) (hS : TextAt w la L) (hT : TextAt w ra R)
    (hTl : T.length = t) (ht : t ≤ 1000) (hk : ∀ i, i < t → (T.getD i []).length ≤ 1000) (hG : GridAt w ta T) :
    Calls Try.prog 35 #[.slice la n nc, .slice ra m mc, .int .i64 cost, .slice ta t tc] w fun e w' => e = .returned (.bool (provedB L R T n m cost)) ∧ Below w.heap.size w w' := by
  obtain ⟨N, hN⟩ : ∃ N, n + 1 = N := ⟨_, rfl⟩
  obtain ⟨M, hM⟩ : ∃ M, m + 1 = M := ⟨_, rfl⟩
  have wN : IntKind.i64.wrap ((n : Int) + 1) = (N : Int) := by rw [IntKind.wrap_i64]; omega
  have wM : IntKind.i64.wrap ((m : Int) + 1) = (M : Int) := by rw [IntKind.wrap_i64]; omega
  by_cases htN : t = N
  case neg =>
    have hv : provedB L R T n m cost = false := proved_count (by omega)
    have hne : ((t : Int) != (N : Int)) = true := by simp; omega
    rw [hv]
    clear hv hL hR fL fR hS hT hTl hk hG htN hN hM wM
    go_enter Try.func35, Try.ntmps35
    go_wp2_with fail
    go_ret
    exact ⟨rfl, Below.refl _ _⟩
  have hko := kinds_one
  have hpr : ∀ (a c X Y : Nat) (W : World), (X, Y) ∈ kinds → a + X ≤ n → c + Y ≤ m → Below w.heap.size w W → Calls Try.prog 57 #[.slice (subA la nc a 2) X (nc - a), .slice (subA ra mc c 2) Y (mc - c)] W fun e w' => e = .returned (.int .i64 (priceAt L R a c (X, Y) : Nat)) ∧ Below W.heap.size W w' := fun a c X Y W hk h1 h2 hb => by
    have l1 := part_len hL h1
    have l2 := part_len hR h2
    have h := refPrice_any ((L.drop a).take X) ((R.drop c).take Y) X (nc - a) Y (mc - c) (subA la nc a 2) (subA ra mc c 2) W l1 (by omega) (fL.part a X).few (by omega) ((hS.grown hb).part hL hnc a X h1) l2 (by omega) (fR.part c Y).few (by omega) ((hT.grown hb).part hR hmc c Y h2)
    rw [refPrice_is (fL.part a X).ok (fR.part c Y).ok (fL.part a X).once (fR.part c Y).once hk l1 l2] at h
    exact h
  have hsl : ∀ (a e X : Nat) W, a + X = e → e ≤ n → (Instr.slice 22 (.slice la n nc) (some (.int .i64 (a : Int))) (some (.int .i64 (e : Int))) none).run Try.prog W = .ok (.slice (subA la nc a 2) X (nc - a)) W := fun a e X W h1 h2 => by
    have h := slice22 la n nc a e (by omega) (by omega) W
    rw [show e - a = X by omega] at h
    exact h
  have hsr : ∀ (a e X : Nat) W, a + X = e → e ≤ m → (Instr.slice 22 (.slice ra m mc) (some (.int .i64 (a : Int))) (some (.int .i64 (e : Int))) none).run Try.prog W = .ok (.slice (subA ra mc a 2) X (mc - a)) W := fun a e X W h1 h2 => by
    have h := slice22 ra m mc a e (by omega) (by omega) W
    rw [show e - a = X by omega] at h
    exact h
  have HPL : Hid (∀ a c s, priceAt L R a c s ≤ 2060) := hid (fun a c s => priceM_le _ _ _ _)
  obtain ⟨b1, off1, ra0, rc0, ea, -, -⟩ := hG 0 (by omega)
  have HRW : Hid (∀ i, i < t → ∃ ra rc, w.cell? ⟨b1, off1 + i, none⟩ = some (.slice ra (T.getD i []).length rc) ∧ IntsAt w ra (T.getD i [])) := hid (fun i hi => by
    obtain ⟨b', o', xa, xc, e', c, hI⟩ := hG i (by omega)
    rw [ea] at e'
    cases e'
    exact ⟨xa, xc, c, hI⟩)
  subst ea
  have HLEN := hid hk
  have HROW : Hid (∀ i, i < t → okRow M (T.getD i []) = false → provedB L R T n m cost = false) := hid (fun i hi h => proved_row (i := i) (by omega) (by rw [hM]; exact h))
  have HALL : Hid ((∀ i, i < t → (T.getD i []).length = M ∧ ∀ k, k < M → okN (gridF T i k) = true) → provedB L R T n m cost = provesB L R (gridF T) n m cost) := hid (fun h => by
    unfold provedB
    rw [covers_true (by omega) (fun i hi => by have := h i (by omega); rw [hM]; exact this), Bool.true_and])
  have HNM := hid (show n + 1 = t ∧ m + 1 = M ∧ n ≤ 20 ∧ m ≤ 20 by omega)
  have heq : ((t : Int) != (N : Int)) = false := by simp; omega
  have hM21 : M ≤ 21 := by omega
  have ht21 : t ≤ 21 := by omega
  clear hL hR hn hm hnc hmc fL fR hS hT hTl ht hk hG hN hM htN
  go_enter Try.func35, Try.ntmps35
  go_wp2_with fail
  clear heq wN
  go_loopw [9, 10] (fun iv _ wr => ∃ i : Nat, i ≤ t ∧ iv = .int .i64 i ∧ Hid (∀ a, a < i → (T.getD a []).length = M ∧ ∀ k, k < M → okN (gridF T a k) = true) ∧ Below w.heap.size w wr) (fun iv _ _ => t - (intOf iv).toNat)
  case atStart => exact ⟨0, Nat.zero_le _, rfl, hid (fun a h => by omega), Below.refl _ _⟩
  case round =>
    obtain ⟨i, hi, rfl, HI, hB⟩ := hrel
    by_cases hlt : i < t
    · have hlt' : (i : Int) < t := by omega
      obtain ⟨xa, xc, c1, hI⟩ := HRW.out i hlt
      have hl1 := HLEN.out i hlt
      have HRI := hid (HROW.out i hlt)
      have HRD : Hid (∀ k, k < (T.getD i []).length → ∃ b2 o2, xa = some ⟨b2, o2, none⟩ ∧ w.cell? ⟨b2, o2 + k, none⟩ = some (.int .i64 (gridF T i k))) := hid hI
      clear hI
      obtain ⟨ln, hln⟩ : ∃ q, (T.getD i []).length = q := ⟨_, rfl⟩
      rw [hln] at c1 hl1 HRD
      have HLN := hid hln
      clear hln
      have c1w := hid c1
      replace c1 := cell_grown hB c1
      have q1 := lt_of_cell c1
      by_cases hlM : ln = M
      case neg =>
        have hv : provedB L R T n m cost = false := HRI.out (okRow_len (by rw [HLN.out]; exact hlM))
        have hne : ((ln : Int) != (M : Int)) = true := by simp; omega
        have HVF := hid hv
        clear hv hlM
        go_wp2_with fail
        go_ret
        exact ⟨by rw [HVF.out]; rfl, hB⟩
      subst hlM
      have heq : ((ln : Int) != (ln : Int)) = false := by simp
      go_wp2_with fail
      clear heq
      go_loopw [10] (fun kv wx => ∃ k : Nat, k ≤ ln ∧ kv = .int .i64 k ∧ Hid (∀ a, a < k → okN (gridF T i a) = true) ∧ Below wr.heap.size wr wx) (fun kv _ => ln - (intOf kv).toNat)
      case atStart => exact ⟨0, Nat.zero_le _, rfl, hid (fun a h => by omega), Below.refl _ _⟩
      case round =>
        obtain ⟨k, hk, rfl, HK, hBx⟩ := hrel
        have hBw := below_then hB hBx
        replace c1 := cell_grown hBx c1
        by_cases hlk : k < ln
        · have hlk' : (k : Int) < ln := by omega
          obtain ⟨b2, o2, ex, c2⟩ := HRD.out k hlk
          subst ex
          replace c2 := cell_grown hBw c2
          have q2 := lt_of_cell c2
          have q1 := lt_of_cell c1
          have HCE : Hid (okN (gridF T i k) = false → provedB L R T n m cost = false) := hid (fun h => HRI.out (okRow_cell (by rw [HLN.out]; exact hlk) h))
          have hin := fun W => in_any (gridF T i k) 0 100000 W
          have HOK : Hid (okN (gridF T i k) = inB (gridF T i k) 0 100000) := hid rfl
          obtain ⟨z, hz⟩ : ∃ z, gridF T i k = z := ⟨_, rfl⟩
          have HZ := hid hz
          rw [hz] at c2 hin HCE HOK
          clear hz
          obtain ⟨v, hv⟩ : ∃ v, inB z 0 100000 = v := ⟨_, rfl⟩
          rw [hv] at hin HOK
          clear hv
          cases v
          · have HVF := hid (HCE.out HOK.out)
            go_wp2_with (go_at_call 41; refine (hin _).mono ?_; rintro e wz ⟨rfl, rfl⟩)
            go_ret
            exact ⟨by rw [HVF.out]; rfl, hBw⟩
          · go_wp2_with (go_at_call 41; refine (hin _).mono ?_; rintro e wz ⟨rfl, rfl⟩)
            go_roundw
            case rel =>
              refine ⟨k + 1, by omega, by go_num, hid (fun a ha => ?_), hBx⟩
              rcases Nat.lt_or_ge a k with h | h
              · exact HK.out a h
              · obtain rfl : a = k := by omega
                rw [HZ.out]; exact HOK.out
            case measure => simp [intOf]; omega
        · have hkn : k = ln := by omega
          subst hkn
          have q1 := lt_of_cell c1
          go_wp2_with fail
          go_roundw
          case rel =>
            refine ⟨i + 1, by omega, by go_num, hid (fun a ha => ?_), hBw⟩
            rcases Nat.lt_or_ge a i with h | h
            · exact HI.out a h
            · obtain rfl : a = i := by omega
              exact ⟨HLN.out, HK.out⟩
          case measure => simp [intOf]; omega
    · have hit : i = t := by omega
      subst hit
      have hv := HALL.out HI.out
      have HRD : Hid (∀ a, a < i → ∃ b2 o2 rc, w.cell? ⟨b1, off1 + a, none⟩ = some (.slice (some ⟨b2, o2, none⟩) M rc) ∧ ∀ k, k < M → w.cell? ⟨b2, o2 + k, none⟩ = some (.int .i64 (gridF T a k))) := hid (fun a ha => by
        obtain ⟨xa, xc, c, hI⟩ := HRW.out a ha
        have hl := (HI.out a ha).1
        have hMp : 0 < M := by have := HNM.out; omega
        obtain ⟨b2, o2, ex, -⟩ := hI 0 (by omega)
        rw [hl, ex] at c
        refine ⟨b2, o2, xc, c, fun k hk => ?_⟩
        obtain ⟨b', o', e', c'⟩ := hI k (by omega)
        rw [ex] at e'
        cases e'
        exact c')
      have HBD : Hid (∀ a k, a < i → k < M → 0 ≤ gridF T a k ∧ gridF T a k ≤ 100000) := hid (fun a k ha hk => by
        have h := (HI.out a ha).2 k hk
        unfold okN inB at h
        rw [decide_eq_true_eq] at h
        exact h)
      have HKF : Hid (∀ a k q, a < i → k < M → q < 5 → ¬ kOk L R (gridF T) a k q → provedB L R T n m cost = false) := hid (fun a k q ha hk hq h => by
        rw [hv]; unfold provesB
        rw [kind_false hq (by have := HNM.out; omega) (by have := HNM.out; omega) h, Bool.false_and])
      have HKA : Hid ((∀ a, a < i → ∀ k, k < M → ∀ q, q < 5 → kOk L R (gridF T) a k q) → provedB L R T n m cost = (decide (gridF T 0 0 = 0) && decide (gridF T n m = cost))) := hid (fun h => by
        rw [hv]; unfold provesB
        rw [kind_all (fun a ha k hk => h a (by have := HNM.out; omega) k (by have := HNM.out; omega)), Bool.true_and])
      clear hv HRW HROW HALL HI
      obtain ⟨f, hf⟩ : ∃ f, f = gridF T := ⟨_, rfl⟩
      rw [← hf] at HRD HBD HKF HKA
      clear hf HLEN
      go_wp2_with fail
      go_loopw [11, 12, 13, 14] (fun iv _ _ _ wx => ∃ j : Nat, j ≤ i ∧ iv = .int .i64 j ∧ Hid (∀ a, a < j → ∀ k, k < M → ∀ q, q < 5 → kOk L R f a k q) ∧ Below w.heap.size w wx) (fun iv _ _ _ _ => i - (intOf iv).toNat)
      case atStart => exact ⟨0, Nat.zero_le _, rfl, hid (fun a h => by omega), hB⟩
      case round =>
        clear hB
        obtain ⟨j, hj, rfl, HJ, hB⟩ := hrel
        by_cases hlj : j < i
        · have hlj' : (j : Int) < i := by omega
          obtain ⟨b2, o2, rc, c1, c2⟩ := HRD.out j hlj
          have HC2 := hid c2
          clear c2
          have C1 := hid c1
          clear c1
          go_wp2_with fail
          go_loopw [12, 13, 14] (fun kv _ _ wx => ∃ k : Nat, k ≤ M ∧ kv = .int .i64 k ∧ Hid (∀ a, a < k → ∀ q, q < 5 → kOk L R f j a q) ∧ Below w.heap.size w wx) (fun kv _ _ _ => M - (intOf kv).toNat)
          case atStart => exact ⟨0, Nat.zero_le _, rfl, hid (fun a h => by omega), hB⟩
          case round =>
            clear hB
            obtain ⟨k, hk, rfl, HK, hB⟩ := hrel
            have c1 := cell_grown hB C1.out
            have q1 := lt_of_cell c1
            by_cases hlk : k < M
            · have hlk' : (k : Int) < M := by omega
              go_wp2_with fail
              clear c1 q1
              go_loopw [13, 14] (fun qv _ wx => ∃ q : Nat, q ≤ 5 ∧ qv = .int .i64 q ∧ Hid (∀ a, a < q → kOk L R f j k a) ∧ Below w.heap.size w wx) (fun qv _ _ => 5 - (intOf qv).toNat)
              case atStart => exact ⟨0, Nat.zero_le _, rfl, hid (fun a h => by omega), hB⟩
              case round =>
                clear hB
                obtain ⟨q, hq, rfl, HQ, hB⟩ := hrel
                by_cases hl5 : q < 5
                · have hl5' : (q : Int) < 5 := by omega
                  have hko1 := fun W => hko q hl5 W
                  obtain ⟨u1, u2, u3, u4⟩ := kind_two q hl5
                  have hkf := HKF.out j k q hlj hlk hl5
                  have hkd : kOk L R f j k q = ((kinds.getD q (0, 0)).1 ≤ j → (kinds.getD q (0, 0)).2 ≤ k → f j k ≤ f (j - (kinds.getD q (0, 0)).1) (k - (kinds.getD q (0, 0)).2) + (priceAt L R (j - (kinds.getD q (0, 0)).1) (k - (kinds.getD q (0, 0)).2) (kinds.getD q (0, 0)) : Int)) := rfl
                  obtain ⟨KO, hKO⟩ : ∃ X, X = kOk L R f j k q := ⟨_, rfl⟩
                  have HKO := hid hKO
                  rw [← hKO] at hkf hkd
                  clear hKO
                  generalize kinds.getD q (0, 0) = s at hko1 u1 u2 u3 u4 hkd
                  obtain ⟨x, y⟩ := s
                  simp only at hko1 u1 u2 u3 hkd
                  have HKD := hid hkd
                  have HKV := hid hkf
                  clear hkd hkf
                  have hq0 : (0 : Int) ≤ (q : Int) := by omega
                  go_upto_region 23 with (first | (go_at_call 56; refine (hko1 _).mono ?_; rintro e wk ⟨kb, rfl, k0, k1, hqk⟩; have hBk := below_then hB hqk; clear hqk))
                  obtain ⟨ws, hws⟩ : ∃ X, X = wk.alloc (.cells #[.int .i64 (x : Int), .int .i64 (y : Int)] 37) := ⟨_, rfl⟩
                  have hBs := below_then hBk (below_alloc wk (.cells #[.int .i64 (x : Int), .int .i64 (y : Int)] 37))
                  have s0 : ws.cell? ⟨wk.heap.size, 0, none⟩ = some (.int .i64 (x : Int)) := by rw [hws]; simp [go_sem]
                  have s1 : ws.cell? ⟨wk.heap.size, 1, none⟩ = some (.int .i64 (y : Int)) := by rw [hws]; simp [go_sem]
                  rw [← hws] at hBs ⊢
                  have gs := lt_of_cell s0
                  clear hws k0 k1 hBk hB hko1
                  have goNext : Hid (KO → ∀ a, a < q + 1 → kOk L R f j k a) := hid (fun h a ha => by
                    rcases Nat.lt_or_ge a q with h1 | h1
                    · exact HQ.out a h1
                    · obtain rfl : a = q := by omega
                      rw [← HKO.out]; exact h)
                  by_cases hx : x ≤ j
                  case neg =>
                    have hx1 : decide ((x : Int) ≤ (j : Int)) = false := by simp; omega
                    have oa : ∀ p : Over ws, p.w.cell? ⟨wk.heap.size, 0, none⟩ = some (.int .i64 (x : Int)) := fun p => p.cell s0
                    have ob' : ∀ p : Over ws, p.w.cell? ⟨wk.heap.size, 1, none⟩ = some (.int .i64 (y : Int)) := fun p => p.cell s1
                    have hKO : KO := by rw [HKD.out]; intro h; omega
                    have HG2 := hid (goNext.out hKO)
                    clear hKO
                    refine wp_region_over ws (Below.refl _ _) (by kernel_rfl) (by kernel_rfl) ?_
                    repeat (go_big_quiet_step (first | fail))
                    refine wpQuiet_nil ?_
                    intro wz hw'
                    have hbz := below_then hBs (over_below hw')
                    clear hw' oa ob' s0 s1
                    go_wp2_with fail
                    go_roundw
                    case rel => exact ⟨q + 1, by omega, by go_num, hid HG2.out, hbz⟩
                    case measure => simp [intOf]; omega
                  have hx1 : decide ((x : Int) ≤ (j : Int)) = true := by simp; omega
                  by_cases hy : y ≤ k
                  case neg =>
                    have hy1 : decide ((y : Int) ≤ (k : Int)) = false := by simp; omega
                    have oa : ∀ p : Over ws, p.w.cell? ⟨wk.heap.size, 0, none⟩ = some (.int .i64 (x : Int)) := fun p => p.cell s0
                    have ob' : ∀ p : Over ws, p.w.cell? ⟨wk.heap.size, 1, none⟩ = some (.int .i64 (y : Int)) := fun p => p.cell s1
                    have hKO : KO := by rw [HKD.out]; intro _ h; omega
                    have HG2 := hid (goNext.out hKO)
                    clear hKO
                    refine wp_region_over ws (Below.refl _ _) (by kernel_rfl) (by kernel_rfl) ?_
                    repeat (go_big_quiet_step (first | fail))
                    refine wpQuiet_nil ?_
                    intro wz hw'
                    have hbz := below_then hBs (over_below hw')
                    clear hw' oa ob' s0 s1
                    go_wp2_with fail
                    go_roundw
                    case rel => exact ⟨q + 1, by omega, by go_num, hid HG2.out, hbz⟩
                    case measure => simp [intOf]; omega
                  have hy1 : decide ((y : Int) ≤ (k : Int)) = true := by simp; omega
                  obtain ⟨e, he⟩ : ∃ e, j - x = e := ⟨_, rfl⟩
                  obtain ⟨g, hg⟩ : ∃ g, k - y = g := ⟨_, rfl⟩
                  have hcs := HKD.out
                  rw [he, hg] at hcs
                  obtain ⟨b3, o3, rc3, d1, d2⟩ := HRD.out e (by omega)
                  replace d2 := d2 g (by omega)
                  have c1 := C1.out
                  have c2 := HC2.out k hlk
                  have hpb := HPL.out e g (x, y)
                  have hpc := fun W hb => hpr e g x y W u4 (by have := HNM.out; omega) (by have := HNM.out; omega) hb
                  have hse := fun W => hsl e j x W (by omega) (by have := HNM.out; omega)
                  have hsf := fun W => hsr g k y W (by omega) (by have := HNM.out; omega)
                  have hhb := HBD.out e g (by omega) (by omega)
                  generalize priceAt L R e g (x, y) = pr at hcs hpb hpc
                  generalize f j k = va at hcs c2
                  generalize f e g = hv at hcs d2 hhb
                  have HCS := hid hcs
                  have w1 : IntKind.i64.wrap ((j : Int) - x) = (e : Int) := by rw [IntKind.wrap_i64]; omega
                  have w2 : IntKind.i64.wrap ((k : Int) - y) = (g : Int) := by rw [IntKind.wrap_i64]; omega
                  have w3 : IntKind.i64.wrap (hv + (pr : Int)) = hv + (pr : Int) := by rw [IntKind.wrap_i64]; omega
                  have e0 : (0 : Int) ≤ (e : Int) := by omega
                  have e1 : (e : Int) < (i : Int) := by omega
                  have f0 : (0 : Int) ≤ (g : Int) := by omega
                  have f1 : (g : Int) < (M : Int) := by omega
                  have j0 : (0 : Int) ≤ (j : Int) := by omega
                  have k0' : (0 : Int) ≤ (k : Int) := by omega
                  replace c1 := cell_grown hBs c1
                  replace c2 := cell_grown hBs c2
                  replace d1 := cell_grown hBs d1
                  replace d2 := cell_grown hBs d2
                  have ga := lt_of_cell c1
                  have gb := lt_of_cell c2
                  have gc := lt_of_cell d1
                  have gd := lt_of_cell d2
                  clear he hg hcs
                  have oa : ∀ p : Over ws, p.w.cell? ⟨wk.heap.size, 0, none⟩ = some (.int .i64 (x : Int)) := fun p => p.cell s0
                  have ob' : ∀ p : Over ws, p.w.cell? ⟨wk.heap.size, 1, none⟩ = some (.int .i64 (y : Int)) := fun p => p.cell s1
                  have oc : ∀ p : Over ws, p.w.cell? ⟨b1, off1 + j, none⟩ = some (.slice (some ⟨b2, o2, none⟩) M rc) := fun p => p.cell c1
                  have od : ∀ p : Over ws, p.w.cell? ⟨b2, o2 + k, none⟩ = some (.int .i64 va) := fun p => p.cell c2
                  have oe : ∀ p : Over ws, p.w.cell? ⟨b1, off1 + e, none⟩ = some (.slice (some ⟨b3, o3, none⟩) M rc3) := fun p => p.cell d1
                  have of' : ∀ p : Over ws, p.w.cell? ⟨b3, o3 + g, none⟩ = some (.int .i64 hv) := fun p => p.cell d2
                  have hcA : ∀ p : Over ws, _ := fun p => hpc p.w (below_then hBs p.h)
                  by_cases hgt : hv + (pr : Int) < va
                  · have hd : decide (hv + (pr : Int) < va) = true := by simp; omega
                    have HVF : Hid (provedB L R T n m cost = false) := hid (HKV.out (by rw [HCS.out]; intro h; have := h hx hy; omega))
                    refine wp_region_over ws (Below.refl _ _) (by kernel_rfl) (by kernel_rfl) ?_
                    repeat (go_big_quiet_step (first | (go_at_call 57; exact Calls.over_of (hcA _))))
                    refine wpQuiet_nil ?_
                    intro wz hw'
                    have hbz := below_then hBs (over_below hw')
                    clear hw' oa ob' oc od oe of' hcA c1 c2 d1 d2 s0 s1 w1 w2 w3 gs ga gb gc gd hse hsf hpc
                    go_wp2_with fail
                    go_ret
                    exact ⟨by rw [HVF.out]; rfl, hbz⟩
                  · have hd : decide (hv + (pr : Int) < va) = false := by simp; omega
                    have hKO : KO := by rw [HCS.out]; intro _ _; omega
                    have HG2 := hid (goNext.out hKO)
                    clear hKO
                    refine wp_region_over ws (Below.refl _ _) (by kernel_rfl) (by kernel_rfl) ?_
                    repeat (go_big_quiet_step (first | (go_at_call 57; exact Calls.over_of (hcA _))))
                    refine wpQuiet_nil ?_
                    intro wz hw'
                    have hbz := below_then hBs (over_below hw')
                    clear hw' oa ob' oc od oe of' hcA c1 c2 d1 d2 s0 s1 w1 w2 w3 gs ga gb gc gd hse hsf hpc
                    go_wp2_with fail
                    go_roundw
                    case rel => exact ⟨q + 1, by omega, by go_num, hid HG2.out, hbz⟩
                    case measure => simp [intOf]; omega
                · have h5 : q = 5 := by omega
                  subst h5
                  go_wp2_with fail
                  go_roundw
                  case rel =>
                    refine ⟨k + 1, by omega, by go_num, hid (fun a ha => ?_), hB⟩
                    rcases Nat.lt_or_ge a k with h | h
                    · exact HK.out a h
                    · obtain rfl : a = k := by omega
                      exact HQ.out
                  case measure => simp [intOf]; omega
            · have hkM : k = M := by omega
              subst hkM
              go_wp2_with fail
              go_roundw
              case rel =>
                refine ⟨j + 1, by omega, by go_num, hid (fun a ha => ?_), hB⟩
                rcases Nat.lt_or_ge a j with h | h
                · exact HJ.out a h
                · obtain rfl : a = j := by omega
                  exact HK.out
              case measure => simp [intOf]; omega
        · have hji : j = i := by omega
          subst hji
          have hV := HKA.out HJ.out
          have hnm := HNM.out
          obtain ⟨b2, o2, rc2, c1, c2⟩ := HRD.out 0 (by omega)
          replace c2 := c2 0 (by omega)
          rw [Nat.add_zero] at c1 c2
          obtain ⟨b3, o3, rc3, d1, d2⟩ := HRD.out n (by omega)
          replace d2 := d2 m (by omega)
          generalize f 0 0 = z0 at hV c2
          generalize f n m = zn at hV d2
          replace c1 := cell_grown hB c1
          replace c2 := cell_grown hB c2
          replace d1 := cell_grown hB d1
          replace d2 := cell_grown hB d2
          have ga := lt_of_cell c1
          have gb := lt_of_cell c2
          have gc := lt_of_cell d1
          have gd := lt_of_cell d2
          have n1 : (n : Int) < (j : Int) := by omega
          have n2 : (m : Int) < (M : Int) := by omega
          have n3 : (0 : Int) < (j : Int) := by omega
          have n4 : (0 : Int) < (M : Int) := by omega
          have HVV := hid hV
          clear hV hnm
          by_cases hz : z0 = 0
          · subst hz
            go_wp2_with fail
            go_ret
            exact ⟨by rw [HVV.out]; rfl, hB⟩
          · have hz2 : (z0 == 0) = false := by simp [hz]
            have HZZ := hid hz
            clear hz
            go_wp2_with fail
            go_ret
            exact ⟨by rw [HVV.out, decide_eq_false HZZ.out]; rfl, hB⟩

end Go.Proofs.Ytohahlnhbppnhaa
