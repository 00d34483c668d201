/- Tongue, the laws: when the interpreter of a speech is done. -/
import Derived.Test.YtohahlnhbppnhaaBE
import Derived.Test.YtohahlnhbppnhaaAN
import Derived.Test.YtohahlnhbppnhaaAC
import Derived.Deep.CutRange
namespace Go.Proofs.Ytohahlnhbppnhaa
open Go.RowKit
set_option linter.unusedSimpArgs false
set_option linter.unusedVariables false

theorem freeN_congr (S : List Int) (D E : Nat → Int) (g : Int) (n : Nat) (h : ∀ j, j < n → D j = E j) : freeN S D g n = freeN S E g n := by
  induction n with
  | zero => rfl
  | succ n ih =>
    have h1 := ih (fun j hj => h j (by omega))
    have h2 := h n (by omega)
    unfold freeN
    rw [h1, h2]

theorem drew_of {X : World} {b o : Nat} {v : Value} (h : X.cell? ⟨b, o, none⟩ = some v) : Below X.heap.size X X.drew := (Below.refl _ _).drew

def upJ (S : List Int) (T : List (Int × Int)) (n : Nat) (most : Int) (j : Nat) : Bool := (List.range j).all (keepAt S T n most)

theorem upJ_succ (S : List Int) (T : List (Int × Int)) (n : Nat) (most : Int) (j : Nat) : upJ S T n most (j + 1) = (upJ S T n most j && keepAt S T n most j) := by
  unfold upJ
  rw [List.range_succ, List.all_append]
  simp

set_option maxRecDepth 100000 in
set_option maxHeartbeats 1000000 in
theorem timesLaw_any (s : Spoken) (most : Int) (ns nc ms mc : Nat) (sa na : Option Addr) (w : World) (h1 : s.starts.length = ns) (h2 : s.needs.length = ms) (hn : ns ≤ 9223372036854775807) (hm : ms ≤ 9223372036854775807) (hS : IntsAt w sa s.starts) (hN : PairsAt w na s.needs) :
    Calls Try.prog 7 #[.agg #[.slice sa ns nc, .int .i64 s.lag, .slice na ms mc], .int .i64 most] w fun e w' => e = .returned (.bool true) ∧ Below w.heap.size w w' := by
  have hwk := fun W => wakes_any W
  have hRS := fun W hS hN => rightSpeech_any s ns nc ms mc sa na W h1 h2 hn hm hS hN
  have hIN := fun W => in_any most 0 100000 W
  have hSP : ns ≤ 25 → ms ≤ 25 → ∀ W, IntsAt W sa s.starts → PairsAt W na s.needs → _ := fun a b W hS hN => speech_any s ns nc ms mc sa na W h1 h2 (by omega) (by omega) hS hN
  have hBE : ns ≤ 25 → ms ≤ 25 → ∀ a ac b bc W, IntsAt W a s.starts → PairsAt W b s.needs → _ := fun x y a ac b bc W hI hP => behindOf_any s most ns ms ac bc a b W h1 h2 (by omega) (by omega) hI hP
  obtain ⟨W0, hW0⟩ : ∃ X, X = w.alloc (.cells #[.slice sa ns nc, .int .i64 s.lag, .slice na ms mc] 73) := ⟨_, rfl⟩
  have hb : Below w.heap.size w W0 := by rw [hW0]; exact below_alloc _ _
  have p0 : W0.cell? ⟨w.heap.size, 0, none⟩ = some (.slice sa ns nc) := by rw [hW0]; simp [go_sem]
  have p1 : W0.cell? ⟨w.heap.size, 1, none⟩ = some (.int .i64 s.lag) := by rw [hW0]; simp [go_sem]
  have p2 : W0.cell? ⟨w.heap.size, 2, none⟩ = some (.slice na ms mc) := by rw [hW0]; simp [go_sem]
  have hSx := hS.grown hb
  have hNx := hN.grown hb
  have gp := lt_of_cell p0
  have HN := hid h1
  have HM := hid h2
  clear hS hN
  by_cases k1 : ns ≤ 25
  rotate_left 1
  · have k1' : (25 : Int) < (ns : Int) := by omega
    clear h1 h2 hSP hBE hRS
    go_enter Try.func7, Try.ntmps7
    go_upto_region 1 with fail
    rw [← hW0]
    clear hW0
    go_wp2_with (go_at_call 18; refine (hwk _).mono ?_; rintro e wq ⟨rfl, hq⟩; replace hb := below_then hb hq)
    go_ret
    exact ⟨rfl, hb⟩
  have k1' : ¬ (25 : Int) < (ns : Int) := by omega
  by_cases k2 : ms ≤ 25
  rotate_left 1
  · have k2' : (25 : Int) < (ms : Int) := by omega
    clear h1 h2 hSP hBE hRS
    go_enter Try.func7, Try.ntmps7
    go_upto_region 1 with fail
    rw [← hW0]
    clear hW0
    go_wp2_with (go_at_call 18; refine (hwk _).mono ?_; rintro e wq ⟨rfl, hq⟩; replace hb := below_then hb hq)
    go_ret
    exact ⟨rfl, hb⟩
  have k2' : ¬ (25 : Int) < (ms : Int) := by omega
  replace hSP := hSP k1 k2
  replace hBE := hBE k1 k2
  cases hv : valP s with
  | false =>
    rw [hv] at hRS
    clear h1 h2
    go_enter Try.func7, Try.ntmps7
    go_upto_region 1 with fail
    rw [← hW0]
    clear hW0
    go_wp2_with (first | (go_at_call 39; refine (hSP _ hSx hNx).mono ?_; rintro e wq ⟨a, ac, b, bc, B, rfl, hIa, hOb, -, -, hq⟩; have hPb := pairs_of_owns (T := s.needs) (a := b) (cap := bc) (W := wq) (e := 85) (base := B) (by rw [HM.out]; exact hOb); clear hOb; replace hSx := hSx.grown hq; replace hNx := hNx.grown hq; replace p0 := cell_grown hq p0; replace p1 := cell_grown hq p1; replace p2 := cell_grown hq p2; replace gp := lt_of_cell p0; replace hb := below_then hb hq; clear hq) | (go_at_call 38; refine (hBE a ac b bc _ hIa hPb).mono ?_; rintro e wq ⟨hq, ⟨-, rfl⟩ | ⟨hne, -⟩ | ⟨hne, -⟩⟩; rotate_left 1; (exact absurd hne (by rw [hv]; simp)); (exact absurd hne (by rw [hv]; simp)); replace hSx := hSx.grown hq; replace hNx := hNx.grown hq; replace p0 := cell_grown hq p0; replace p1 := cell_grown hq p1; replace p2 := cell_grown hq p2; replace gp := lt_of_cell p0; replace hb := below_then hb hq; clear hq) | (go_at_call 40; refine (hRS _ hSx hNx).mono ?_; rintro e wq ⟨rfl, hq⟩; (try replace hPT := hPT.grown hq); replace hSx := hSx.grown hq; replace hNx := hNx.grown hq; replace p0 := cell_grown hq p0; replace p1 := cell_grown hq p1; replace p2 := cell_grown hq p2; replace gp := lt_of_cell p0; replace hb := below_then hb hq; clear hq) | (go_at_call 18; refine (hwk _).mono ?_; rintro e wq ⟨rfl, hq⟩; replace hb := below_then hb hq; clear hq))
    go_ret
    exact ⟨rfl, hb⟩
  | true =>
    rw [hv] at hRS
    cases hi : inB most 0 100000 with
    | false =>
      rw [hi] at hIN
      clear h1 h2
      go_enter Try.func7, Try.ntmps7
      go_upto_region 1 with fail
      rw [← hW0]
      clear hW0
      go_wp2_with (first | (go_at_call 39; refine (hSP _ hSx hNx).mono ?_; rintro e wq ⟨a, ac, b, bc, B, rfl, hIa, hOb, -, -, hq⟩; have hPb := pairs_of_owns (T := s.needs) (a := b) (cap := bc) (W := wq) (e := 85) (base := B) (by rw [HM.out]; exact hOb); clear hOb; replace hSx := hSx.grown hq; replace hNx := hNx.grown hq; replace p0 := cell_grown hq p0; replace p1 := cell_grown hq p1; replace p2 := cell_grown hq p2; replace gp := lt_of_cell p0; replace hb := below_then hb hq; clear hq) | (go_at_call 38; refine (hBE a ac b bc _ hIa hPb).mono ?_; rintro e wq ⟨hq, ⟨hne, -⟩ | ⟨-, -, rfl⟩ | ⟨-, hne, -⟩⟩; (exact absurd hne (by rw [hv]; simp)); rotate_left 1; (exact absurd hne (by rw [hi]; simp)); replace hSx := hSx.grown hq; replace hNx := hNx.grown hq; replace p0 := cell_grown hq p0; replace p1 := cell_grown hq p1; replace p2 := cell_grown hq p2; replace gp := lt_of_cell p0; replace hb := below_then hb hq; clear hq) | (go_at_call 40; refine (hRS _ hSx hNx).mono ?_; rintro e wq ⟨rfl, hq⟩; (try replace hPT := hPT.grown hq); replace hSx := hSx.grown hq; replace hNx := hNx.grown hq; replace p0 := cell_grown hq p0; replace p1 := cell_grown hq p1; replace p2 := cell_grown hq p2; replace gp := lt_of_cell p0; replace hb := below_then hb hq; clear hq) | (go_at_call 41; refine (hIN _).mono ?_; rintro e wq ⟨rfl, rfl⟩) | (go_at_call 18; refine (hwk _).mono ?_; rintro e wq ⟨rfl, hq⟩; replace hb := below_then hb hq; clear hq))
      go_ret
      exact ⟨rfl, hb⟩
    | true =>
      rw [hi] at hIN
      have hmn : ms = ns := by have := (valP_parts hv).2.2.2.2.1; omega
      subst hmn
      obtain ⟨vp1, vp2, -, -, -, vp6⟩ := valP_parts hv
      rw [h1] at vp1 vp2 vp6
      have hmost : 0 ≤ most ∧ most ≤ 100000 := by simpa only [inB, decide_eq_true_eq] using hi
      have hE0 := fun W hN => ends_any s false s.lag ms nc ms mc sa na W h2 (by omega) hN
      have hE1 := fun W hN => ends_any s true s.lag ms nc ms mc sa na W h2 (by omega) hN
      have hEl : ∀ hb, (endsM s hb).length = ms := fun hb => by unfold endsM; rw [List.length_map, h2]
      have hD0 : ∀ (j : Nat) W ea ec, j < ms → IntsAt W sa s.starts → IntsAt W ea (endsM s false) → Calls Try.prog 43 #[.agg #[.slice sa ms nc, .int .i64 s.lag, .slice na ms mc], .slice ea ms ec, .int .i64 (j : Int)] W fun e w' => e = .returned (.int .i64 ((timesN s ms).getD j (0, 0)).1) ∧ Below W.heap.size W w' := fun j W ea ec hj hS hI => by
        have h := refDone_any s hv (endsM s false) ms nc ms mc ec sa na ea h1 (hEl _) (fun j hj => by rw [ends_get s false j (by omega)]; show 1 ≤ lows s j ∧ lows s j ≤ 60; have := vp6 j hj; unfold lows; omega) j W hj hS hI
        rw [freeN_congr s.starts (fun j => (endsM s false).getD j 0) (lows s) s.lag (j + 1) (fun i hi => by show (endsM s false).getD i 0 = _; rw [ends_get s false i (by omega)]; rfl)] at h
        rw [timesN_get s ms hj]
        exact h
      have hD1 : ∀ (j : Nat) W ea ec, j < ms → IntsAt W sa s.starts → IntsAt W ea (endsM s true) → Calls Try.prog 43 #[.agg #[.slice sa ms nc, .int .i64 s.lag, .slice na ms mc], .slice ea ms ec, .int .i64 (j : Int)] W fun e w' => e = .returned (.int .i64 ((timesN s ms).getD j (0, 0)).2) ∧ Below W.heap.size W w' := fun j W ea ec hj hS hI => by
        have h := refDone_any s hv (endsM s true) ms nc ms mc ec sa na ea h1 (hEl _) (fun j hj => by rw [ends_get s true j (by omega)]; show 1 ≤ highs s j ∧ highs s j ≤ 60; have := vp6 j hj; unfold highs; omega) j W hj hS hI
        rw [freeN_congr s.starts (fun j => (endsM s true).getD j 0) (highs s) s.lag (j + 1) (fun i hi => by show (endsM s true).getD i 0 = _; rw [ends_get s true i (by omega)]; rfl)] at h
        rw [timesN_get s ms hj]
        exact h
      have hTB : ∀ j, j < ms → 0 ≤ ((timesN s ms).getD j (0, 0)).2 ∧ ((timesN s ms).getD j (0, 0)).2 ≤ 101260 := fun j hj => by
        have a := times_bounds hv h1 hj
        have b := now_within hv [] h1 hj
        omega
      have HTL := hid (timesN_length s ms)
      have HKM : Hid (keepsM s.starts (timesN s ms) ms most = upJ s.starts (timesN s ms) ms most ms) := hid rfl
      have HTB := hid hTB
      have VP2 := hid vp2
      have hBE2 : ∀ a ac b bc W, IntsAt W a s.starts → PairsAt W b s.needs → Calls Try.prog 38 #[.agg #[.slice a ms ac, .int .i64 s.lag, .slice b ms bc], .int .i64 most] W fun e w' => ∃ ta tc, e = .returned (.tuple #[.slice ta ms tc, .bool (keepsM s.starts (timesN s ms) ms most), .int .i64 0]) ∧ PairsAt w' ta (timesN s ms) ∧ Below W.heap.size W w' := fun a ac b bc W hI hP => by
        refine (hBE a ac b bc W hI hP).mono ?_
        rintro e wq ⟨hq, ⟨hne, -⟩ | ⟨-, hne, -⟩ | ⟨-, -, ta, tc, rfl, hPT⟩⟩
        · exact absurd hne (by rw [hv]; simp)
        · exact absurd hne (by rw [hi]; simp)
        · exact ⟨ta, tc, rfl, hPT, hq⟩
      generalize timesN s ms = T at hBE2 hD0 hD1 HTB HTL HKM
      obtain ⟨kk, hkk⟩ : ∃ kk, keepsM s.starts T ms most = kk := ⟨_, rfl⟩
      rw [hkk] at HKM
      simp only [hkk] at hBE2
      have n20 : ms ≤ 20 := by omega
      clear hBE h1 h2 hTB vp1 vp2 vp6 hEl hkk
      go_enter Try.func7, Try.ntmps7
      go_upto_region 1 with fail
      rw [← hW0]
      clear hW0
      go_upto_region 13 with (first | (go_at_call 39; refine (hSP _ hSx hNx).mono ?_; rintro e wq ⟨a, ac, b, bc, B, rfl, hIa, hOb, -, -, hq⟩; have hPb := pairs_of_owns (T := s.needs) (a := b) (cap := bc) (W := wq) (e := 85) (base := B) (by rw [HM.out]; exact hOb); clear hOb; replace hSx := hSx.grown hq; replace hNx := hNx.grown hq; replace p0 := cell_grown hq p0; replace p1 := cell_grown hq p1; replace p2 := cell_grown hq p2; replace gp := lt_of_cell p0; replace hb := below_then hb hq; clear hq) | (go_at_call 38; refine (hBE2 a ac b bc _ hIa hPb).mono ?_; rintro e wq ⟨ta, tc, rfl, hPT, hq⟩; replace hSx := hSx.grown hq; replace hNx := hNx.grown hq; replace p0 := cell_grown hq p0; replace p1 := cell_grown hq p1; replace p2 := cell_grown hq p2; replace gp := lt_of_cell p0; replace hb := below_then hb hq; clear hq) | (go_at_call 40; refine (hRS _ hSx hNx).mono ?_; rintro e wq ⟨rfl, hq⟩; (try replace hPT := hPT.grown hq); replace hSx := hSx.grown hq; replace hNx := hNx.grown hq; replace p0 := cell_grown hq p0; replace p1 := cell_grown hq p1; replace p2 := cell_grown hq p2; replace gp := lt_of_cell p0; replace hb := below_then hb hq; clear hq) | (go_at_call 41; refine (hIN _).mono ?_; rintro e wq ⟨rfl, rfl⟩))
      have hBd := drew_of p0
      have hbA := hBd
      have hbB := hBd
      clear hSP hBE2 hRS hIN
      go_region_held3 (fun w' : World => w'.cell? ⟨w.heap.size, 0, none⟩ = some (.slice sa ms nc) ∧ w'.cell? ⟨w.heap.size, 1, none⟩ = some (.int .i64 s.lag) ∧ w'.cell? ⟨w.heap.size, 2, none⟩ = some (.slice na ms mc)) (first | with_reducible exact ⟨cell_grown hBd p0, cell_grown hBd p1, cell_grown hBd p2⟩ | with_reducible exact ⟨cell_grown hbA p0, cell_grown hbA p1, cell_grown hbA p2⟩ | with_reducible exact ⟨cell_grown hbB p0, cell_grown hbB p1, cell_grown hbB p2⟩) (first | (go_at_call 42; first | (have hzz := hI0; clear hzz; refine (hE1 _ (hNx.grown hbA)).mono ?_; rintro e wB ⟨e1, c1, rfl, hI1, hq⟩; replace hI0 := hI0.grown hq; replace hbB := hbA.trans (hq.mono hbA.size); clear hq) | (refine (hE0 _ (hNx.grown hBd)).mono ?_; rintro e wA ⟨e0, c0, rfl, hI0, hq⟩; replace hbA := hBd.trans (hq.mono hBd.size); clear hq)))
      replace hSx := hSx.grown hbB
      replace hPT := hPT.grown hbB
      replace p0 := cell_grown hbB p0
      replace p1 := cell_grown hbB p1
      replace p2 := cell_grown hbB p2
      replace hb := hb.trans (hbB.mono hb.size)
      clear hNx hbA hbB hBd hE0 hE1 gp
      have gp := lt_of_cell p0
      go_wp2_with fail
      go_loopw [11, 12, 13, 14, 15] (fun u i _ _ _ wr => ∃ (j : Nat) (b : Bool), j ≤ ms ∧ i = .int .i64 j ∧ u = .bool b ∧ Hid (b = upJ s.starts T ms most j) ∧ Below wB.heap.size wB wr) (fun _ i _ _ _ _ => ms - (intOf i).toNat)
      case atStart => exact ⟨0, true, Nat.zero_le _, rfl, rfl, hid rfl, Below.refl _ _⟩
      case round =>
        obtain ⟨j, u, hj, rfl, rfl, HU, hB⟩ := hrel
        by_cases hlt : j < ms
        · have hlt' : (j : Int) < ms := by omega
          have hj0 : (0 : Int) ≤ (j : Int) := by omega
          obtain ⟨b1, o1, es, s1⟩ := hSx j (by rw [HN.out]; exact hlt)
          obtain ⟨b2, o2, et, t1, t2⟩ := hPT j (by rw [HTL.out]; exact hlt)
          have hsx := VP2.out j hlt
          have htb := HTB.out j hlt
          have hca := fun W (h : Below wB.heap.size wB W) => hD0 j W e0 c0 hlt (hSx.grown h) (hI0.grown h)
          have hcb := fun W (h : Below wB.heap.size wB W) => hD1 j W e1 c1 hlt (hSx.grown h) (hI1.grown h)
          have hnx : j + 1 < ms → ∃ b o, sa = some ⟨b, o, none⟩ ∧ wB.cell? ⟨b, o + (j + 1), none⟩ = some (.int .i64 (s.starts.getD (j + 1) 0)) := fun h => hSx (j + 1) (by rw [HN.out]; exact h)
          have hny : j + 1 < ms → 0 ≤ s.starts.getD (j + 1) 0 ∧ s.starts.getD (j + 1) 0 ≤ 100000 := fun h => VP2.out (j + 1) h
          subst es et
          obtain ⟨lo, hlo⟩ : ∃ x, (T.getD j (0, 0)).1 = x := ⟨_, rfl⟩
          obtain ⟨up, hup⟩ : ∃ x, (T.getD j (0, 0)).2 = x := ⟨_, rfl⟩
          obtain ⟨x, hx⟩ : ∃ x, s.starts.getD j 0 = x := ⟨_, rfl⟩
          rw [hlo] at t1
          rw [hup] at t2 htb
          simp only [hlo] at hca
          simp only [hup] at hcb
          rw [hx] at s1 hsx
          clear hlo
          have r0 := cell_grown hB p0
          have r1 := cell_grown hB p1
          have r2 := cell_grown hB p2
          have gr := lt_of_cell r0
          replace s1 := cell_grown hB s1
          replace t1 := cell_grown hB t1
          replace t2 := cell_grown hB t2
          have hx' := hid hx
          have hup' := hid hup
          clear hx hup
          go_upto_region 17 with fail
          have oa : ∀ p : Over wr, p.w.cell? ⟨w.heap.size, 0, none⟩ = some (.slice (some ⟨b1, o1, none⟩) ms nc) := fun p => p.cell r0
          have ob : ∀ p : Over wr, p.w.cell? ⟨w.heap.size, 1, none⟩ = some (.int .i64 s.lag) := fun p => p.cell r1
          have oc : ∀ p : Over wr, p.w.cell? ⟨w.heap.size, 2, none⟩ = some (.slice na ms mc) := fun p => p.cell r2
          have hcA : ∀ p : Over wr, _ := fun p => hca p.w (hB.trans (p.h.mono hB.size))
          have hcB : ∀ p : Over wr, _ := fun p => hcb p.w (hB.trans (p.h.mono hB.size))
          refine wp_region_over wr (Below.refl _ _) (by kernel_rfl) (by kernel_rfl) ?_
          repeat (go_big_quiet_step (first | (go_at_call_has 43 e0; exact Calls.over_of (hcA _)) | (go_at_call_has 43 e1; exact Calls.over_of (hcB _))))
          refine wpQuiet_nil ?_
          intro wz hw'
          have hbz := over_below hw'
          clear hw' oa ob oc hcA hcB hca hcb
          have hx := hx'.out
          have hup := hup'.out
          replace r0 := cell_grown hbz r0
          replace s1 := cell_grown hbz s1
          replace t1 := cell_grown hbz t1
          replace t2 := cell_grown hbz t2
          replace gr := lt_of_cell r0
          have gs := lt_of_cell s1
          have gt := lt_of_cell t1
          by_cases hn1 : j + 1 < ms
          · obtain ⟨b3, o3, es, s2⟩ := hnx hn1
            cases es
            have hsy := hny hn1
            have hmin : min (j + 1) (ms - 1) = j + 1 := by omega
            have hqs : ((j : Int) + 1).toNat = j + 1 := by omega
            have hn1' : (j : Int) + 1 < ms := by omega
            replace s2 := cell_grown hbz (cell_grown hB s2)
            obtain ⟨y, hy⟩ : ∃ y, s.starts.getD (j + 1) 0 = y := ⟨_, rfl⟩
            rw [hy] at s2 hsy
            have HKA : Hid (keepAt s.starts T ms most j = decide (up ≤ y + most)) := hid (by unfold keepAt; rw [hmin, hup, hy])
            clear hmin hx hup hy
            cases u with
            | false =>
              have HUS : Hid (upJ s.starts T ms most (j + 1) = false) := hid (by rw [upJ_succ, ← HU.out]; rfl)
              go_wp2_with fail
              go_roundw
              case rel => exact ⟨j + 1, false, by omega, by go_num, rfl, hid HUS.out.symm, hB.trans (hbz.mono hB.size)⟩
              case measure => simp [intOf]; omega
            | true =>
              by_cases hk : up ≤ y + most
              · have hk' : up - y ≤ most := by omega
                have HUS : Hid (upJ s.starts T ms most (j + 1) = true) := hid (by rw [upJ_succ, ← HU.out, HKA.out]; simp [hk])
                clear hk
                go_wp2_with fail
                go_roundw
                case rel => exact ⟨j + 1, true, by omega, by go_num, rfl, hid HUS.out.symm, hB.trans (hbz.mono hB.size)⟩
                case measure => simp [intOf]; omega
              · have hk' : ¬ up - y ≤ most := by omega
                have HUS : Hid (upJ s.starts T ms most (j + 1) = false) := hid (by rw [upJ_succ, ← HU.out, HKA.out]; simp [hk])
                clear hk
                go_wp2_with fail
                go_roundw
                case rel => exact ⟨j + 1, false, by omega, by go_num, rfl, hid HUS.out.symm, hB.trans (hbz.mono hB.size)⟩
                case measure => simp [intOf]; omega
          · have hmin : min (j + 1) (ms - 1) = j := by omega
            have hn1' : ¬ (j : Int) + 1 < ms := by omega
            have HKA : Hid (keepAt s.starts T ms most j = decide (up ≤ x + most)) := hid (by unfold keepAt; rw [hmin, hup, hx])
            clear hmin hx hup
            cases u with
            | false =>
              have HUS : Hid (upJ s.starts T ms most (j + 1) = false) := hid (by rw [upJ_succ, ← HU.out]; rfl)
              go_wp2_with fail
              go_roundw
              case rel => exact ⟨j + 1, false, by omega, by go_num, rfl, hid HUS.out.symm, hB.trans (hbz.mono hB.size)⟩
              case measure => simp [intOf]; omega
            | true =>
              by_cases hk : up ≤ x + most
              · have hk' : up - x ≤ most := by omega
                have HUS : Hid (upJ s.starts T ms most (j + 1) = true) := hid (by rw [upJ_succ, ← HU.out, HKA.out]; simp [hk])
                clear hk
                go_wp2_with fail
                go_roundw
                case rel => exact ⟨j + 1, true, by omega, by go_num, rfl, hid HUS.out.symm, hB.trans (hbz.mono hB.size)⟩
                case measure => simp [intOf]; omega
              · have hk' : ¬ up - x ≤ most := by omega
                have HUS : Hid (upJ s.starts T ms most (j + 1) = false) := hid (by rw [upJ_succ, ← HU.out, HKA.out]; simp [hk])
                clear hk
                go_wp2_with fail
                go_roundw
                case rel => exact ⟨j + 1, false, by omega, by go_num, rfl, hid HUS.out.symm, hB.trans (hbz.mono hB.size)⟩
                case measure => simp [intOf]; omega
        · have hjn : j = ms := by omega
          subst hjn
          have hku : u = kk := by rw [HU.out, ← HKM.out]
          subst hku
          replace hb := hb.trans (hB.mono hb.size)
          go_wp2_with (go_at_call 18; refine (hwk _).mono ?_; rintro e wq ⟨rfl, hq⟩; replace hb := below_then hb hq; clear hq)
          go_ret
          exact ⟨rfl, hb⟩

end Go.Proofs.Ytohahlnhbppnhaa
