/- Tongue, the laws: whatever seconds the interpreter needs, it is done within the times. -/
import Derived.Test.YtohahlnhbppnhaaBG
import Derived.BigQuiet
import Derived.StillTailTactics
import Derived.Deep.CutRange
namespace Go.Proofs.Ytohahlnhbppnhaa
open Go.RowKit
set_option linter.unusedSimpArgs false
set_option linter.unusedVariables false

set_option maxRecDepth 100000 in
set_option maxHeartbeats 1000000 in
theorem anyLaw_any (s : Spoken) (ws : List Int) (most lag at_ more : Int) (ns nc ms mc wn wc : Nat) (sa na wa : Option Addr) (w : World) (h1 : s.starts.length = ns) (h2 : s.needs.length = ms) (hn : ns ≤ 9223372036854775807) (hm : ms ≤ 9223372036854775807) (hw : ws.length = wn) (hwn : wn ≤ 9223372036854775807) (hmo : 0 ≤ most ∧ most ≤ 65535) (hla : 0 ≤ lag ∧ lag ≤ 255) (hat : 0 ≤ at_ ∧ at_ ≤ 255) (hmr : 0 ≤ more ∧ more ≤ 255) (hS : IntsAt w sa s.starts) (hN : PairsAt w na s.needs) (hW : WordsAt w wa ws) :
    Calls Try.prog 14 #[.agg #[.slice sa ns nc, .int .i64 s.lag, .slice na ms mc], .slice wa wn wc, .int .u16 most, .int .u8 lag, .int .u8 at_, .int .u8 more] w fun e w' => e = .returned (.bool true) ∧ Below w.heap.size w w' := by
  have hwk := fun W => wakes_any W
  have hRS := fun W hS hN => rightSpeech_any s ns nc ms mc sa na W h1 h2 hn hm hS hN
  obtain ⟨W0, hW0⟩ : ∃ X, X = w.alloc (.cells #[.slice sa ns nc, .int .i64 s.lag, .slice na ms mc] 73) := ⟨_, rfl⟩
  have hb : Below w.heap.size w W0 := by rw [hW0]; exact below_alloc _ _
  have p0 : W0.cell? ⟨w.heap.size, 0, none⟩ = some (.slice sa ns nc) := by rw [hW0]; simp [go_sem]
  have p1 : W0.cell? ⟨w.heap.size, 1, none⟩ = some (.int .i64 s.lag) := by rw [hW0]; simp [go_sem]
  have p2 : W0.cell? ⟨w.heap.size, 2, none⟩ = some (.slice na ms mc) := by rw [hW0]; simp [go_sem]
  have hSx := hS.grown hb
  have hNx := hN.grown hb
  have hWx := hW.grown hb
  have gp := lt_of_cell p0
  have HM := hid h2
  clear hS hN hW
  cases hv : valP s with
  | false =>
    rw [hv] at hRS
    clear h1 h2
    go_enter Try.func14, Try.ntmps14
    go_upto_region 1 with fail
    rw [← hW0]
    clear hW0
    go_wp2_with (first | (go_at_call 40; refine (hRS _ hSx hNx).mono ?_; rintro e wq ⟨rfl, hq⟩; replace hSx := hSx.grown hq; replace hNx := hNx.grown hq; replace hWx := hWx.grown hq; replace p0 := cell_grown hq p0; replace p1 := cell_grown hq p1; replace p2 := cell_grown hq p2; replace gp := lt_of_cell p0; replace hb := below_then hb hq; (try replace hPT := hPT.grown hq); clear hq) | (go_at_call 18; refine (hwk _).mono ?_; rintro e wq ⟨rfl, hq⟩; replace hb := below_then hb hq; clear hq))
    go_ret
    exact ⟨rfl, hb⟩
  | true =>
    rw [hv] at hRS
    by_cases hw0 : wn = 0
    · subst hw0
      clear h1 h2 hw
      go_enter Try.func14, Try.ntmps14
      go_upto_region 1 with fail
      rw [← hW0]
      clear hW0
      go_wp2_with (first | (go_at_call 40; refine (hRS _ hSx hNx).mono ?_; rintro e wq ⟨rfl, hq⟩; replace hSx := hSx.grown hq; replace hNx := hNx.grown hq; replace hWx := hWx.grown hq; replace p0 := cell_grown hq p0; replace p1 := cell_grown hq p1; replace p2 := cell_grown hq p2; replace gp := lt_of_cell p0; replace hb := below_then hb hq; (try replace hPT := hPT.grown hq); clear hq) | (go_at_call 18; refine (hwk _).mono ?_; rintro e wq ⟨rfl, hq⟩; replace hb := below_then hb hq; clear hq))
      go_ret
      exact ⟨rfl, hb⟩
    have hw1 : (0 : Int) < (wn : Int) := by omega
    have hw1' : ¬ (wn : Int) = 0 := by omega
    have hmn : ms = ns := by have := (valP_parts hv).2.2.2.2.1; omega
    subst hmn
    obtain ⟨vp1, vp2, -, vp4, -, vp6⟩ := valP_parts hv
    rw [h1] at vp1 vp2 vp6
    have hmost : inB most 0 100000 = true := by unfold inB; rw [decide_eq_true_eq]; omega
    have hSP : ∀ W, IntsAt W sa s.starts → PairsAt W na s.needs → _ := fun W hS hN => speech_any s ms nc ms mc sa na W h1 h2 (by omega) (by omega) hS hN
    have hBE2 : ∀ a ac b bc W, IntsAt W a s.starts → PairsAt W b s.needs → Calls Try.prog 38 #[.agg #[.slice a ms ac, .int .i64 s.lag, .slice b ms bc], .int .i64 most] W fun e w' => ∃ ta tc, e = .returned (.tuple #[.slice ta ms tc, .bool (keepsM s.starts (timesN s ms) ms most), .int .i64 0]) ∧ PairsAt w' ta (timesN s ms) ∧ Below W.heap.size W w' := fun a ac b bc W hI hP => by
      refine (behindOf_any s most ms ms ac bc a b W h1 h2 (by omega) (by omega) hI hP).mono ?_
      rintro e wq ⟨hq, ⟨hne, -⟩ | ⟨-, hne, -⟩ | ⟨-, -, ta, tc, rfl, hPT⟩⟩
      · exact absurd hne (by rw [hv]; simp)
      · exact absurd hne (by rw [hmost]; simp)
      · exact ⟨ta, tc, rfl, hPT, hq⟩
    -- with more of everything
    have hBH : ∀ (s' : Spoken), valP s' = true → s'.starts.length = ms → s'.needs.length = ms → ∀ a ac b bc W, IntsAt W a s'.starts → PairsAt W b s'.needs → Calls Try.prog 38 #[.agg #[.slice a ms ac, .int .i64 s'.lag, .slice b ms bc], .int .i64 most] W fun e w' => ∃ ta tc kk, e = .returned (.tuple #[.slice ta ms tc, .bool kk, .int .i64 0]) ∧ PairsAt w' ta (timesN s' ms) ∧ Below W.heap.size W w' := fun s' hv' h1' h2' a ac b bc W hI hP => by
      refine (behindOf_any s' most ms ms ac bc a b W h1' h2' (by omega) (by omega) hI hP).mono ?_
      rintro e wq ⟨hq, ⟨hne, -⟩ | ⟨-, hne, -⟩ | ⟨-, -, ta, tc, rfl, hPT⟩⟩
      · exact absurd hne (by rw [hv']; simp)
      · exact absurd hne (by rw [hmost]; simp)
      · exact ⟨ta, tc, _, rfl, hPT, hq⟩
    have hNOW : ∀ j, j < ms → nowN s ws (j + 1) = max (s.starts.getD j 0 + s.lag) (nowN s ws j) + needW s ws j := fun j hj => rfl
    have hNB : ∀ j, j < ms → ((timesN s ms).getD j (0, 0)).1 ≤ nowN s ws (j + 1) ∧ nowN s ws (j + 1) ≤ ((timesN s ms).getD j (0, 0)).2 := fun j hj => now_within hv ws h1 hj
    have hTB : ∀ j, j < ms → 0 ≤ ((timesN s ms).getD j (0, 0)).1 ∧ ((timesN s ms).getD j (0, 0)).2 ≤ 101260 := fun j hj => times_bounds hv h1 hj
    have hTR : ∀ j, j + 1 < ms → ((timesN s ms).getD j (0, 0)).1 < ((timesN s ms).getD (j + 1) (0, 0)).1 ∧ ((timesN s ms).getD j (0, 0)).2 < ((timesN s ms).getD (j + 1) (0, 0)).2 := fun j hj => times_rise hv h1 hj
    have hNX : ∀ j, j < ms → keepsM s.starts (timesN s ms) ms most = true → nowN s ws (j + 1) - s.starts.getD (min (j + 1) (ms - 1)) 0 ≤ most := fun j hj hk => now_next hv ws h1 hj hk
    have hNP : ∀ j, j ≤ ms → 0 ≤ nowN s ws j ∧ nowN s ws j ≤ 101260 := fun j hj => by
      cases j with
      | zero => exact ⟨Int.le_refl _, by show (0 : Int) ≤ _; omega⟩
      | succ j =>
        have a := hNB j (by omega)
        have b := hTB j (by omega)
        omega
    have hNW : ∀ j, j < ms → needW s ws j = (s.needs.getD j (0, 0)).1 + ws.getD (j % wn) 0 % ((s.needs.getD j (0, 0)).2 - (s.needs.getD j (0, 0)).1 + 1) := fun j hj => by
      unfold needW lows highs
      rw [hw]
    have HTL := hid (timesN_length s ms)
    have HLA := fun (lg : Int) (hl : 0 ≤ lg) (k : Nat) (mo : Int) (hm : 0 ≤ mo) (hk : k < ms) (i : Nat) (hi : i < ms) => harder_later hv hl hm k (by omega) (n := ms) h1 hi
    have HLV := fun (lg : Int) (hl : 0 ≤ lg) (k : Nat) (mo : Int) (hm : 0 ≤ mo) (hk : k < ms) => harder_val hv hl hm k (by omega)
    have HNOW := hid hNOW
    have HNB := hid hNB
    have HTB := hid hTB
    have HTR := hid hTR
    have HNX := hid hNX
    have HNP := hid hNP
    have HNW := hid hNW
    have HLAh := hid HLA
    have HLVh := hid HLV
    have HLG := hid (lagged_val hv hla.1)
    have VP2 := hid vp2
    have VP6 := hid vp6
    have HN := hid h1
    have HW := hid hw
    have n20 : ms ≤ 20 := by omega
    clear hNOW hNB hTB hTR hNX hNP hNW HLA HLV hmost vp1 vp2 vp6 h1 h2 hw
    obtain ⟨T, hT⟩ : ∃ T, timesN s ms = T := ⟨_, rfl⟩
    obtain ⟨kk, hkk⟩ : ∃ kk, keepsM s.starts T ms most = kk := ⟨_, rfl⟩
    simp only [hT, hkk] at hBE2
    rw [hT] at HTL HNB HTB HTR HNX HLAh
    rw [hkk] at HNX
    clear hT hkk
    go_enter Try.func14, Try.ntmps14
    go_upto_region 1 with fail
    rw [← hW0]
    clear hW0
    go_upto_region 6 with (first | (go_at_call 39; refine (hSP _ hSx hNx).mono ?_; rintro e wq ⟨a, ac, b, bc, B, rfl, hIa, hOb, hBw, haB, hq⟩; have hPb := pairs_of_owns (T := s.needs) (a := b) (cap := bc) (W := wq) (e := 85) (base := B) (by rw [HM.out]; exact hOb); replace hSx := hSx.grown hq; replace hNx := hNx.grown hq; replace hWx := hWx.grown hq; replace p0 := cell_grown hq p0; replace p1 := cell_grown hq p1; replace p2 := cell_grown hq p2; replace gp := lt_of_cell p0; replace hb := below_then hb hq; (try replace hPT := hPT.grown hq); clear hq) | (go_at_call 38; refine (hBE2 a ac b bc _ hIa hPb).mono ?_; rintro e wq ⟨ta, tc, rfl, hPT, hq⟩; replace hSx := hSx.grown hq; replace hNx := hNx.grown hq; replace hWx := hWx.grown hq; replace p0 := cell_grown hq p0; replace p1 := cell_grown hq p1; replace p2 := cell_grown hq p2; replace gp := lt_of_cell p0; replace hb := below_then hb hq; (try replace hPT := hPT.grown hq); clear hq) | (go_at_call 40; refine (hRS _ hSx hNx).mono ?_; rintro e wq ⟨rfl, hq⟩; replace hSx := hSx.grown hq; replace hNx := hNx.grown hq; replace hWx := hWx.grown hq; replace p0 := cell_grown hq p0; replace p1 := cell_grown hq p1; replace p2 := cell_grown hq p2; replace gp := lt_of_cell p0; replace hb := below_then hb hq; (try replace hPT := hPT.grown hq); clear hq))
    clear hIa hOb hPb hRS hBE2 hBw haB
    go_wp2_with fail
    go_loopw [16, 17, 18, 19] (fun v i _ _ wr => ∃ j : Nat, j ≤ ms ∧ i = .int .i64 j ∧ v = .int .i64 (nowN s ws j) ∧ Below wq.heap.size wq wr) (fun _ i _ _ _ => ms - (intOf i).toNat)
    case atStart => exact ⟨0, Nat.zero_le _, rfl, rfl, Below.refl _ _⟩
    case round =>
      obtain ⟨j, hj, rfl, rfl, hB⟩ := hrel
      by_cases hlt : j < ms
      · have hlt' : (j : Int) < ms := by omega
        have hj0 : (0 : Int) ≤ (j : Int) := by omega
        obtain ⟨b1, o1, es, s1⟩ := hSx j (by rw [HN.out]; exact hlt)
        obtain ⟨b2, o2, en, u1, u2⟩ := hNx j (by rw [HM.out]; exact hlt)
        have hq := Nat.mod_lt j (by omega : 0 < wn)
        obtain ⟨b3, o3, ew, c3, x1, x2⟩ := hWx (j % wn) (by rw [HW.out]; exact hq)
        obtain ⟨b4, o4, et, t1, t2⟩ := hPT j (by rw [HTL.out]; exact hlt)
        have hnx : j + 1 < ms → ∃ b o, sa = some ⟨b, o, none⟩ ∧ wq.cell? ⟨b, o + (j + 1), none⟩ = some (.int .i64 (s.starts.getD (j + 1) 0)) := fun h => hSx (j + 1) (by rw [HN.out]; exact h)
        have hpv : 0 < j → ∃ b o, ta = some ⟨b, o, none⟩ ∧ wq.cell? ⟨b, o + (j - 1) * 2, none⟩ = some (.int .i64 (T.getD (j - 1) (0, 0)).1) ∧ wq.cell? ⟨b, o + (j - 1) * 2 + 1, none⟩ = some (.int .i64 (T.getD (j - 1) (0, 0)).2) := fun h => hPT (j - 1) (by rw [HTL.out]; omega)
        subst es en ew et
        have a1 := VP2.out j hlt
        have a2 := VP6.out j hlt
        have a3 := HNB.out j hlt
        have a4 := HTB.out j hlt
        have a5 := HNP.out j hj
        have a6 := HNOW.out j hlt
        have a7 := HNW.out j hlt
        have a8 : kk = true → nowN s ws (j + 1) - s.starts.getD (min (j + 1) (ms - 1)) 0 ≤ most := HNX.out j hlt
        have hqm : (j : Int).tmod (wn : Int) = ((j % wn : Nat) : Int) := by rw [Int.tmod_eq_emod_of_nonneg hj0]; rfl
        generalize j % wn = q at hq c3 x1 x2 a7 hqm
        obtain ⟨wv, hwv⟩ : ∃ x, ws.getD q 0 = x := ⟨_, rfl⟩
        rw [hwv] at c3 x1 x2 a7
        obtain ⟨lo, hlo⟩ : ∃ x, (s.needs.getD j (0, 0)).1 = x := ⟨_, rfl⟩
        obtain ⟨hi, hhi⟩ : ∃ x, (s.needs.getD j (0, 0)).2 = x := ⟨_, rfl⟩
        rw [hlo] at u1 a2 a7
        rw [hhi] at u2 a2 a7
        obtain ⟨x, hx⟩ : ∃ x, s.starts.getD j 0 = x := ⟨_, rfl⟩
        rw [hx] at s1 a1 a6
        obtain ⟨tl, htl⟩ : ∃ x, (T.getD j (0, 0)).1 = x := ⟨_, rfl⟩
        obtain ⟨th, hth⟩ : ∃ x, (T.getD j (0, 0)).2 = x := ⟨_, rfl⟩
        rw [htl] at t1 a3 a4
        rw [hth] at t2 a3 a4
        generalize needW s ws j = nd at a6 a7
        obtain ⟨z, hz⟩ : ∃ z, nowN s ws j = z := ⟨_, rfl⟩
        simp only [hz] at a5 a6 ⊢
        obtain ⟨z2, hz2⟩ : ∃ z, nowN s ws (j + 1) = z := ⟨_, rfl⟩
        rw [hz2] at a3 a6 a8
        have HZ2 := hid hz2
        have HX := hid hx
        have HTH : Hid (0 < j → (T.getD (j - 1) (0, 0)).1 < tl ∧ (T.getD (j - 1) (0, 0)).2 < th) := hid (fun h => by
          have := HTR.out (j - 1) (by omega)
          rw [show j - 1 + 1 = j by omega, htl, hth] at this
          exact this)
        obtain ⟨g, hg⟩ : ∃ g, s.lag = g := ⟨_, rfl⟩
        rw [hg] at a6 vp4
        have r0 := cell_grown hB p0
        have r1 := cell_grown hB p1
        have r2 := cell_grown hB p2
        rw [hg] at r1
        have HG := hid hg
        clear hwv hlo hhi hx htl hth hz hz2 hg
        have gr := lt_of_cell r0
        replace s1 := cell_grown hB s1
        replace u1 := cell_grown hB u1
        replace u2 := cell_grown hB u2
        replace c3 := cell_grown hB c3
        have m0 := Int.emod_nonneg wv (b := hi - lo + 1) (by omega)
        have m1 := Int.emod_lt_of_pos wv (b := hi - lo + 1) (by omega)
        obtain ⟨rv, hrv⟩ : ∃ r, wv % (hi - lo + 1) = r := ⟨_, rfl⟩
        rw [hrv] at m0 m1 a7
        have hqa : (0 : Int) ≤ (q : Int) := by omega
        have hqb : (q : Int) < (wn : Int) := by omega
        have hqw : IntKind.i64.wrap ((j : Int).tmod (wn : Int)) = (q : Int) := by rw [hqm, IntKind.wrap_i64]; omega
        have e1 : IntKind.i64.wrap (hi - lo) = hi - lo := by rw [IntKind.wrap_i64]; omega
        have e2 : IntKind.i64.wrap (hi - lo + 1) = hi - lo + 1 := by rw [IntKind.wrap_i64]; omega
        have e3 : wv.tmod (hi - lo + 1) = rv := by rw [Int.tmod_eq_emod_of_nonneg x1]; exact hrv
        have e4 : IntKind.i64.wrap (wv.tmod (hi - lo + 1)) = rv := by rw [e3, IntKind.wrap_i64]; omega
        have e5 : IntKind.i64.wrap (lo + rv) = nd := by rw [IntKind.wrap_i64]; omega
        have e6 : IntKind.i64.wrap wv = wv := by rw [IntKind.wrap_i64]; omega
        have e7 : ¬ hi - lo + 1 = 0 := by omega
        go_wp2_with fail
        have oa : ∀ p : Over wr, p.w.cell? ⟨w.heap.size, 2, none⟩ = some (.slice (some ⟨b2, o2, none⟩) ms mc) := fun p => p.cell r2
        have ob : ∀ p : Over wr, p.w.cell? ⟨b2, o2 + j * 2, none⟩ = some (.int .i64 lo) := fun p => p.cell u1
        have oc : ∀ p : Over wr, p.w.cell? ⟨b2, o2 + j * 2 + 1, none⟩ = some (.int .i64 hi) := fun p => p.cell u2
        have od : ∀ p : Over wr, p.w.cell? ⟨b3, o3 + q, none⟩ = some (.int .u16 wv) := fun p => p.cell c3
        refine wp_region_over wr (Below.refl _ _) (by kernel_rfl) (by kernel_rfl) ?_
        repeat (go_big_quiet_step (fail))
        refine wpQuiet_nil ?_
        intro wy hw'
        have hby := over_below hw'
        clear hw' oa ob oc od e1 e2 e3 e4 e5 e6 hqw hqm u1 u2 c3 r2
        replace r0 := cell_grown hby r0
        replace r1 := cell_grown hby r1
        replace s1 := cell_grown hby s1
        replace gr := lt_of_cell r0
        obtain ⟨mx, hmx⟩ : ∃ m, (if z < x + g then x + g else z) = m := ⟨_, rfl⟩
        have hmm : max (x + g) z = mx := by rw [← hmx]; split <;> omega
        rw [hmm] at a6
        have k1 : 0 ≤ mx ∧ mx ≤ 101260 := by omega
        have e1 : IntKind.i64.wrap (x + g) = x + g := by rw [IntKind.wrap_i64]; omega
        have e2 : IntKind.i64.wrap (mx + (lo + rv)) = z2 := by rw [IntKind.wrap_i64]; omega
        clear hmm
        go_wp2_with fail
        have oa : ∀ p : Over wy, p.w.cell? ⟨w.heap.size, 0, none⟩ = some (.slice (some ⟨b1, o1, none⟩) ms nc) := fun p => p.cell r0
        have ob : ∀ p : Over wy, p.w.cell? ⟨w.heap.size, 1, none⟩ = some (.int .i64 g) := fun p => p.cell r1
        have oc : ∀ p : Over wy, p.w.cell? ⟨b1, o1 + j, none⟩ = some (.int .i64 x) := fun p => p.cell s1
        refine wp_region_over wy (Below.refl _ _) (by kernel_rfl) (by kernel_rfl) ?_
        repeat (go_big_quiet_step (fail))
        refine wpQuiet_nil ?_
        intro wz hw'
        have hbz' := over_below hw'
        rw [show mx + (lo + rv) = z2 by omega]
        clear hw' oa ob oc e1 e2 hmx
        have hbz : Below wr.heap.size wr wz := hby.trans (hbz'.mono hby.size)
        replace r0 := cell_grown hbz' r0
        replace s1 := cell_grown hbz' s1
        replace gr := lt_of_cell r0
        have gs := lt_of_cell s1
        replace t1 := cell_grown hbz (cell_grown hB t1)
        replace t2 := cell_grown hbz (cell_grown hB t2)
        have gt := lt_of_cell t1
        clear r1 hby hbz' a7 a6 m0 m1 hrv
        go_upto_if 111 with fail
        go_cut [19] from 112 to 117 (fun v wx => ∃ nx : Int, v = .int .i64 nx ∧ 0 ≤ nx ∧ nx ≤ 100000 ∧ (kk = true → z2 - nx ≤ most) ∧ wx = wz)
        case first =>
          by_cases hn1 : j + 1 < ms
          · obtain ⟨b6, o6, ey, s2⟩ := hnx hn1
            cases ey
            have hsy := VP2.out (j + 1) hn1
            have hmin : min (j + 1) (ms - 1) = j + 1 := by omega
            rw [hmin] at a8
            have hqs : ((j : Int) + 1).toNat = j + 1 := by omega
            have hn1' : (j : Int) + 1 < ms := by omega
            replace s2 := cell_grown hbz (cell_grown hB s2)
            generalize s.starts.getD (j + 1) 0 = y at s2 hsy a8
            clear hmin hnx
            go_wp2_with fail
            go_meet
            exact ⟨y, rfl, hsy.1, hsy.2, a8, rfl⟩
          · have hmin : min (j + 1) (ms - 1) = j := by omega
            have hn1' : ¬ (j : Int) + 1 < ms := by omega
            rw [hmin, HX.out] at a8
            clear hmin hnx
            go_wp2_with fail
            go_meet
            exact ⟨x, rfl, by omega, by omega, a8, rfl⟩
        case rest =>
          obtain ⟨nx, rfl, nx1, nx2, a9, hwz⟩ := hcut
          rw [hwz]
          clear hwz
          clear a8 hnx
          have a8 := a9
          clear a9
          go_upto_region 15 with fail
          have hjc : j = 0 ∨ 0 < j := by omega
          rcases hjc with hjz | hjp
          · subst hjz
            clear hpv HTH
            cases kk with
            | false =>
              clear a8
              have m1 : ¬ z2 < tl := by omega
              have m2 : ¬ th < z2 := by omega
              have q1 : decide (z2 < tl) = false := decide_eq_false m1
              have q2 : decide (th < z2) = false := decide_eq_false m2
              have c0 : decide ((0 : Int) < 0) = false := by decide
              have oa : ∀ p : Over wz, p.w.cell? ⟨b4, o4 + 0 * 2, none⟩ = some (.int .i64 tl) := fun p => p.cell t1
              have ob : ∀ p : Over wz, p.w.cell? ⟨b4, o4 + 0 * 2 + 1, none⟩ = some (.int .i64 th) := fun p => p.cell t2
              have oa' : ∀ p : Over wz, p.w.cell? ⟨b4, o4, none⟩ = some (.int .i64 tl) := fun p => by have := p.cell t1; simpa using this
              have ob' : ∀ p : Over wz, p.w.cell? ⟨b4, o4 + 1, none⟩ = some (.int .i64 th) := fun p => by have := p.cell t2; simpa using this
              refine wp_region_over wz (Below.refl _ _) (by kernel_rfl) (by kernel_rfl) ?_
              repeat (go_big_quiet_step (fail))
              refine wpQuiet_nil ?_
              intro wv2 hw'
              have hbv := over_below hw'
              clear hw' oa ob oa' ob'
              go_wp2_with fail
              go_roundw
              case rel => exact ⟨0 + 1, by omega, by go_num, by rw [HZ2.out], (hB.trans (hbz.mono hB.size)).trans (hbv.mono (by have := hB.size; have := hbz.size; omega))⟩
              case measure => simp [intOf]; omega
            | true =>
              replace a8 := a8 rfl
              have m1 : ¬ z2 < tl := by omega
              have m2 : ¬ th < z2 := by omega
              have q1 : decide (z2 < tl) = false := decide_eq_false m1
              have q2 : decide (th < z2) = false := decide_eq_false m2
              have m3 : ¬ most < z2 - nx := by omega
              have q3 : decide (most < z2 - nx) = false := decide_eq_false m3
              have w3 : IntKind.i64.wrap (z2 - nx) = z2 - nx := by rw [IntKind.wrap_i64]; omega
              have c0 : decide ((0 : Int) < 0) = false := by decide
              have oa : ∀ p : Over wz, p.w.cell? ⟨b4, o4 + 0 * 2, none⟩ = some (.int .i64 tl) := fun p => p.cell t1
              have ob : ∀ p : Over wz, p.w.cell? ⟨b4, o4 + 0 * 2 + 1, none⟩ = some (.int .i64 th) := fun p => p.cell t2
              have oa' : ∀ p : Over wz, p.w.cell? ⟨b4, o4, none⟩ = some (.int .i64 tl) := fun p => by have := p.cell t1; simpa using this
              have ob' : ∀ p : Over wz, p.w.cell? ⟨b4, o4 + 1, none⟩ = some (.int .i64 th) := fun p => by have := p.cell t2; simpa using this
              refine wp_region_over wz (Below.refl _ _) (by kernel_rfl) (by kernel_rfl) ?_
              repeat (go_big_quiet_step (fail))
              refine wpQuiet_nil ?_
              intro wv2 hw'
              have hbv := over_below hw'
              clear hw' oa ob oa' ob'
              go_wp2_with fail
              go_roundw
              case rel => exact ⟨0 + 1, by omega, by go_num, by rw [HZ2.out], (hB.trans (hbz.mono hB.size)).trans (hbv.mono (by have := hB.size; have := hbz.size; omega))⟩
              case measure => simp [intOf]; omega
          · obtain ⟨b5, o5, ep, t3, t4⟩ := hpv hjp
            cases ep
            have hth := HTH.out hjp
            replace t3 := cell_grown hbz (cell_grown hB t3)
            replace t4 := cell_grown hbz (cell_grown hB t4)
            generalize (T.getD (j - 1) (0, 0)).1 = ul at t3 hth
            generalize (T.getD (j - 1) (0, 0)).2 = uh at t4 hth
            obtain ⟨j1, hj1⟩ : ∃ j1, j - 1 = j1 := ⟨_, rfl⟩
            rw [hj1] at t3 t4
            clear hpv HTH
            cases kk with
            | false =>
              clear a8
              have m1 : ¬ z2 < tl := by omega
              have m2 : ¬ th < z2 := by omega
              have q1 : decide (z2 < tl) = false := decide_eq_false m1
              have q2 : decide (th < z2) = false := decide_eq_false m2
              have n1 : (0 : Int) < (j : Int) := by omega
              have n1' : 0 < j := by omega
              have q4 : decide ((0 : Int) < (j : Int)) = true := decide_eq_true n1
              have q4b : decide (0 < j) = true := decide_eq_true n1'
              have m5 : ¬ tl ≤ ul := by omega
              have m6 : ¬ th ≤ uh := by omega
              have q5 : decide (tl ≤ ul) = false := decide_eq_false m5
              have q6 : decide (th ≤ uh) = false := decide_eq_false m6
              have w1 : IntKind.i64.wrap ((j : Int) - 1) = (j1 : Int) := by rw [IntKind.wrap_i64]; omega
              have j1a : (0 : Int) ≤ (j1 : Int) := by omega
              have j1b : (j1 : Int) < (ms : Int) := by omega
              have oa : ∀ p : Over wz, p.w.cell? ⟨b4, o4 + j * 2, none⟩ = some (.int .i64 tl) := fun p => p.cell t1
              have ob : ∀ p : Over wz, p.w.cell? ⟨b4, o4 + j * 2 + 1, none⟩ = some (.int .i64 th) := fun p => p.cell t2
              have oc : ∀ p : Over wz, p.w.cell? ⟨b4, o4 + j1 * 2, none⟩ = some (.int .i64 ul) := fun p => p.cell t3
              have od : ∀ p : Over wz, p.w.cell? ⟨b4, o4 + j1 * 2 + 1, none⟩ = some (.int .i64 uh) := fun p => p.cell t4
              refine wp_region_over wz (Below.refl _ _) (by kernel_rfl) (by kernel_rfl) ?_
              repeat (go_big_quiet_step (fail))
              refine wpQuiet_nil ?_
              intro wv2 hw'
              have hbv := over_below hw'
              clear hw' oa ob oc od w1
              go_wp2_with fail
              go_roundw
              case rel => exact ⟨j + 1, by omega, by go_num, by rw [HZ2.out], (hB.trans (hbz.mono hB.size)).trans (hbv.mono (by have := hB.size; have := hbz.size; omega))⟩
              case measure => simp [intOf]; omega
            | true =>
              replace a8 := a8 rfl
              have m1 : ¬ z2 < tl := by omega
              have m2 : ¬ th < z2 := by omega
              have q1 : decide (z2 < tl) = false := decide_eq_false m1
              have q2 : decide (th < z2) = false := decide_eq_false m2
              have m3 : ¬ most < z2 - nx := by omega
              have q3 : decide (most < z2 - nx) = false := decide_eq_false m3
              have w3 : IntKind.i64.wrap (z2 - nx) = z2 - nx := by rw [IntKind.wrap_i64]; omega
              have n1 : (0 : Int) < (j : Int) := by omega
              have n1' : 0 < j := by omega
              have q4 : decide ((0 : Int) < (j : Int)) = true := decide_eq_true n1
              have q4b : decide (0 < j) = true := decide_eq_true n1'
              have m5 : ¬ tl ≤ ul := by omega
              have m6 : ¬ th ≤ uh := by omega
              have q5 : decide (tl ≤ ul) = false := decide_eq_false m5
              have q6 : decide (th ≤ uh) = false := decide_eq_false m6
              have w1 : IntKind.i64.wrap ((j : Int) - 1) = (j1 : Int) := by rw [IntKind.wrap_i64]; omega
              have j1a : (0 : Int) ≤ (j1 : Int) := by omega
              have j1b : (j1 : Int) < (ms : Int) := by omega
              have oa : ∀ p : Over wz, p.w.cell? ⟨b4, o4 + j * 2, none⟩ = some (.int .i64 tl) := fun p => p.cell t1
              have ob : ∀ p : Over wz, p.w.cell? ⟨b4, o4 + j * 2 + 1, none⟩ = some (.int .i64 th) := fun p => p.cell t2
              have oc : ∀ p : Over wz, p.w.cell? ⟨b4, o4 + j1 * 2, none⟩ = some (.int .i64 ul) := fun p => p.cell t3
              have od : ∀ p : Over wz, p.w.cell? ⟨b4, o4 + j1 * 2 + 1, none⟩ = some (.int .i64 uh) := fun p => p.cell t4
              refine wp_region_over wz (Below.refl _ _) (by kernel_rfl) (by kernel_rfl) ?_
              repeat (go_big_quiet_step (fail))
              refine wpQuiet_nil ?_
              intro wv2 hw'
              have hbv := over_below hw'
              clear hw' oa ob oc od w1
              go_wp2_with fail
              go_roundw
              case rel => exact ⟨j + 1, by omega, by go_num, by rw [HZ2.out], (hB.trans (hbz.mono hB.size)).trans (hbv.mono (by have := hB.size; have := hbz.size; omega))⟩
              case measure => simp [intOf]; omega
      · have hjn : ms = j := by omega
        subst hjn
        replace hb := hb.trans (hB.mono hb.size)
        replace hSx := hSx.grown hB
        replace hNx := hNx.grown hB
        replace hPT := hPT.grown hB
        replace p0 := cell_grown hB p0
        replace p1 := cell_grown hB p1
        replace p2 := cell_grown hB p2
        have gr := lt_of_cell p0
        clear hWx HNOW HNB HTR HNX HNP HNW hB gp
        go_upto_region 18 with (go_at_call 39; refine (hSP _ hSx hNx).mono ?_; rintro e wc2 ⟨a2, ac2, b2, bc2, B2, rfl, hIa, hOb, hBw, haB, hq⟩)
        obtain ⟨W2, hW2⟩ : ∃ X, X = wc2.alloc (.cells #[.slice a2 ms ac2, .int .i64 s.lag, .slice b2 ms bc2] 78) := ⟨_, rfl⟩
        have hrow : W2.rowIs wc2.heap.size 78 3 (row3 (.slice a2 ms ac2) (.int .i64 s.lag) (.slice b2 ms bc2)) := by rw [hW2]; exact row3_alloc _ _ _ _ _
        have hb2 : Below wr.heap.size wr W2 := by rw [hW2]; exact hq.alloc hq.size _
        have hIa2 : IntsAt W2 a2 s.starts := by rw [hW2]; exact hIa.grown (below_alloc _ _)
        have hqs := hq.size
        have hb2c : Below wc2.heap.size wc2 W2 := by rw [hW2]; exact below_alloc _ _
        have y0 := hrow.cell (i := 0) (by decide)
        have y1 := hrow.cell (i := 1) (by decide)
        have y2 := hrow.cell (i := 2) (by decide)
        have f1 := hrow.frozen 1
        have gy := hrow.lt
        simp only [row3] at y0 y1 y2
        obtain ⟨g, hg⟩ : ∃ g, s.lag = g := ⟨_, rfl⟩
        rw [hg] at y1 vp4
        obtain ⟨mn, hmn⟩ : ∃ m, (if g + lag < 60 then g + lag else 60) = m := ⟨_, rfl⟩
        have hmnv : min 60 (s.lag + lag) = mn := by rw [hg, ← hmn]; split <;> omega
        have HMN := hid hmnv
        rw [← hW2]
        clear hSP hSx hNx p0 p1 p2 hmnv gr hW2
        by_cases hz : ms = 0
        · subst hz
          go_upto_region 23 with fail
          have hIz : IntsAt (W2.setCell ⟨wc2.heap.size, 1, none⟩ (.int .i64 mn)) a2 s.starts := fun i hi => by rw [HN.out] at hi; omega
          have hrz := hrow.set 1 (.int .i64 mn)
          have z0 := hrz.cell (i := 0) (by decide)
          have z1 := hrz.cell (i := 1) (by decide)
          have z2 := hrz.cell (i := 2) (by decide)
          have gz := hrz.lt
          simp only [row3, if_true, if_false, show ¬ (0 : Nat) = 1 by decide, show ¬ (2 : Nat) = 1 by decide] at z0 z1 z2
          have hbz : Below wr.heap.size wr (W2.setCell ⟨wc2.heap.size, 1, none⟩ (.int .i64 mn)) := hb2.setCell (p := ⟨wc2.heap.size, 1, none⟩) hqs _
          have hcall := hBH (lagged s lag) HLG.out HN.out HM.out a2 ac2 b2 bc2 _ hIz (fun i hi => by have h := HM.out; have : (lagged s lag).needs.length = 0 := h; omega)
          have hlg : (lagged s lag).lag = mn := HMN.out
          rw [hlg] at hcall
          have hbf := hb.trans (hbz.mono hb.size)
          generalize W2.setCell ⟨wc2.heap.size, 1, none⟩ (.int .i64 mn) = W3 at z0 z1 z2 gz hcall hbf ⊢
          clear hrz hrow y0 y1 y2 f1 gy hIz hlg hmn
          go_upto_region 26 with (go_at_call 38; refine hcall.mono ?_; rintro e w4 ⟨ua, uc, k2, rfl, -, hq2⟩; replace hbf := below_then hbf hq2; clear hq2)
          go_wp2_with fail
          go_loopw [25] (fun i wr2 => i = .int .i64 ((0 : Nat) : Int) ∧ Below w.heap.size w wr2) (fun i _ => 0)
          case atStart => exact ⟨rfl, hbf⟩
          case round =>
            obtain ⟨rfl, hbf⟩ := hrel
            go_wp2_with (go_at_call 18; refine (hwk _).mono ?_; rintro e wf ⟨rfl, hq2⟩; replace hbf := below_then hbf hq2; clear hq2)
            go_ret
            exact ⟨rfl, hbf⟩
        · have hmp : 0 < ms := by omega
          obtain ⟨gb, gm, gf, rfl, hgB, hrb, hgm, hgf⟩ := owns_rowIs hOb HM.out hmp
          have hgq : gb < wc2.heap.size := hrb.lt
          have hrb2 : W2.rowIs gb 85 gm gf := hrb.of_block (hb2c.block _ hrb.lt)
          obtain ⟨k, hk⟩ : ∃ k : Nat, at_.tmod (ms : Int) = (k : Int) := ⟨(at_ % (ms : Int)).toNat, by
            rw [Int.tmod_eq_emod_of_nonneg hat.1]
            have := Int.emod_nonneg at_ (b := (ms : Int)) (by omega)
            omega⟩
          have hkm : k < ms := by
            have h1 := Int.emod_lt_of_pos at_ (b := (ms : Int)) (by omega)
            rw [← Int.tmod_eq_emod_of_nonneg hat.1, hk] at h1
            omega
          have hkw : IntKind.i64.wrap (at_.tmod (ms : Int)) = (k : Int) := by rw [hk, IntKind.wrap_i64]; omega
          have hka : (0 : Int) ≤ (k : Int) := by omega
          have hkb : (k : Int) < (ms : Int) := by omega
          have hmi : (0 : Int) < (ms : Int) := by omega
          have hmi' : ¬ (ms : Int) = 0 := by omega
          obtain ⟨l1, l2, l3⟩ := VP6.out k hkm
          obtain ⟨fl, fh⟩ := hgf k hkm
          obtain ⟨lo, hlo⟩ : ∃ x, (s.needs.getD k (0, 0)).1 = x := ⟨_, rfl⟩
          obtain ⟨hi, hhi⟩ : ∃ x, (s.needs.getD k (0, 0)).2 = x := ⟨_, rfl⟩
          rw [hlo] at fl l1 l2
          rw [hhi] at fh l2 l3
          obtain ⟨h2, hh2⟩ : ∃ m, (if hi + more < 60 then hi + more else 60) = m := ⟨_, rfl⟩
          obtain ⟨l4, hl4⟩ : ∃ m, (if lo + more < h2 then lo + more else h2) = m := ⟨_, rfl⟩
          have eh2 : min 60 ((s.needs.getD k (0, 0)).2 + more) = h2 := by rw [hhi, ← hh2]; split <;> omega
          have el4 : min (min 60 ((s.needs.getD k (0, 0)).2 + more)) ((s.needs.getD k (0, 0)).1 + more) = l4 := by rw [eh2, hlo, ← hl4]; split <;> omega
          have ENEED : Hid ((harder s lag k more).needs = s.needs.set k (l4, h2)) := hid (by show s.needs.set k (_, _) = _; rw [el4, eh2])
          have b1 : 0 ≤ h2 ∧ h2 ≤ 60 := by omega
          clear eh2 el4 hlo hhi
          go_upto_region 20 with fail
          have hrow3 := hrow.set 1 (.int .i64 mn)
          have hrb3 := hrb2.setOther (a := ⟨wc2.heap.size, 1, none⟩) (by show gb ≠ wc2.heap.size; omega) (.int .i64 mn)
          have hb3 : Below wr.heap.size wr (W2.setCell ⟨wc2.heap.size, 1, none⟩ (.int .i64 mn)) := hb2.setCell (p := ⟨wc2.heap.size, 1, none⟩) hqs _
          have hIa3 : IntsAt (W2.setCell ⟨wc2.heap.size, 1, none⟩ (.int .i64 mn)) a2 s.starts := fun i hi => by
            obtain ⟨c, off, ea, hc⟩ := hIa2 i hi
            have := haB _ ea
            exact ⟨c, off, ea, cell_set1 (by simp at this; omega) hc⟩
          generalize W2.setCell ⟨wc2.heap.size, 1, none⟩ (.int .i64 mn) = W3 at hrow3 hrb3 hb3 hIa3 ⊢
          clear hrow hrb2 hrb hb2 hIa2 y0 y1 y2 f1 gy hOb hmn
          have y2 := hrow3.cell (i := 2) (by decide)
          have gy := hrow3.lt
          simp only [row3, if_false, show ¬ (2 : Nat) = 1 by decide] at y2
          have oa : ∀ p : Over W3, p.w.cell? ⟨wc2.heap.size, 2, none⟩ = some (.slice (some ⟨gb, 0, none⟩) ms bc2) := fun p => p.cell y2
          refine wp_region_over W3 (Below.refl _ _) (by kernel_rfl) (by kernel_rfl) ?_
          repeat (go_big_quiet_step (fail))
          refine wpQuiet_nil ?_
          intro W4 hw'
          have hb34 := over_below hw'
          clear hw' oa hkw hk
          replace hrow3 := hrow3.of_block (hb34.block _ hrow3.lt)
          replace hrb3 := hrb3.of_block (hb34.block _ hrb3.lt)
          replace hIa3 := hIa3.grown hb34
          replace hb3 := hb3.trans (hb34.mono hb3.size)
          clear hb34 y2 gy
          have d1 := hrb3.cell (i := k * 2 + 1) (by omega)
          have e1 := hrb3.frozen (k * 2 + 1)
          have gd := hrb3.lt
          rw [fh] at d1
          go_upto_region 22 with fail
          have hrow5 := hrow3.setOther (a := ⟨gb, k * 2 + 1, none⟩) (by show wc2.heap.size ≠ gb; omega) (.int .i64 h2)
          have hrb5 := hrb3.set (k * 2 + 1) (.int .i64 h2)
          have hb5 : Below wr.heap.size wr (W4.setCell ⟨gb, k * 2 + 1, none⟩ (.int .i64 h2)) := hb3.setCell (p := ⟨gb, k * 2 + 1, none⟩) (by show wr.heap.size ≤ gb; omega) _
          have hIa5 : IntsAt (W4.setCell ⟨gb, k * 2 + 1, none⟩ (.int .i64 h2)) a2 s.starts := fun i hi => by
            obtain ⟨c, off, ea, hc⟩ := hIa3 i hi
            have := haB _ ea
            exact ⟨c, off, ea, cell_set1 (by simp at this; omega) hc⟩
          generalize W4.setCell ⟨gb, k * 2 + 1, none⟩ (.int .i64 h2) = W5 at hrow5 hrb5 hb5 hIa5 ⊢
          clear hrow3 hrb3 hb3 hIa3 d1 e1 gd hh2
          have d0 := hrb5.cell (i := k * 2) (by omega)
          have d1 := hrb5.cell (i := k * 2 + 1) (by omega)
          have e0 := hrb5.frozen (k * 2)
          have gd := hrb5.lt
          simp only [if_true, show ¬ (k * 2 = k * 2 + 1) by omega, if_false] at d0 d1
          rw [fl] at d0
          have w1 : IntKind.i64.wrap more = more := by rw [IntKind.wrap_i64]; omega
          have w2 : IntKind.i64.wrap (lo + more) = lo + more := by rw [IntKind.wrap_i64]; omega
          go_still_tail 15, (by kernel_rfl)
          clear w1 w2
          change wpList _ _ _ _ _ W5.drew
          replace hrow5 := hrow5.drew
          replace hrb5 := hrb5.drew
          replace hIa5 := hIa5.grown ((Below.refl _ W5).drew)
          replace hb5 := hb5.drew
          generalize W5.drew = W6 at hrow5 hrb5 hIa5 hb5 ⊢
          clear d0 d1 e0 gd
          have d0 := hrb5.cell (i := k * 2) (by omega)
          have e0 := hrb5.frozen (k * 2)
          have gd := hrb5.lt
          simp only [show ¬ (k * 2 = k * 2 + 1) by omega, if_false] at d0
          rw [fl] at d0
          go_upto_region 23 with fail
          have hrow7 := hrow5.setOther (a := ⟨gb, k * 2, none⟩) (by show wc2.heap.size ≠ gb; omega) (.int .i64 l4)
          have hrb7 := hrb5.set (k * 2) (.int .i64 l4)
          have hP7 : PairsAt (W6.setCell ⟨gb, k * 2, none⟩ (.int .i64 l4)) (some ⟨gb, 0, none⟩) (s.needs.set k (l4, h2)) := pairs_of_set HM.out hkm hgm hgf hrb7
          have hb7 : Below wr.heap.size wr (W6.setCell ⟨gb, k * 2, none⟩ (.int .i64 l4)) := hb5.setCell (p := ⟨gb, k * 2, none⟩) (by show wr.heap.size ≤ gb; omega) _
          have hIa7 : IntsAt (W6.setCell ⟨gb, k * 2, none⟩ (.int .i64 l4)) a2 s.starts := fun i hi => by
            obtain ⟨c, off, ea, hc⟩ := hIa5 i hi
            have := haB _ ea
            exact ⟨c, off, ea, cell_set1 (by simp at this; omega) hc⟩
          generalize W6.setCell ⟨gb, k * 2, none⟩ (.int .i64 l4) = W7 at hrow7 hP7 hb7 hIa7 ⊢
          clear hrow5 hrb5 hb5 hIa5 d0 e0 gd hrb7 hl4
          rw [← ENEED.out] at hP7
          have z0 := hrow7.cell (i := 0) (by decide)
          have z1 := hrow7.cell (i := 1) (by decide)
          have z2 := hrow7.cell (i := 2) (by decide)
          have gz := hrow7.lt
          simp only [row3, if_true, if_false, show ¬ (0 : Nat) = 1 by decide, show ¬ (2 : Nat) = 1 by decide] at z0 z1 z2
          have hcall := hBH (harder s lag k more) (HLVh.out lag hla.1 k more hmr.1 hkm) HN.out (by rw [ENEED.out, List.length_set]; exact HM.out) a2 ac2 (some ⟨gb, 0, none⟩) bc2 W7 hIa7 hP7
          have hlg : (harder s lag k more).lag = mn := HMN.out
          rw [hlg] at hcall
          have HLE : Hid (∀ i, i < ms → (T.getD i (0, 0)).1 ≤ ((timesN (harder s lag k more) ms).getD i (0, 0)).1 ∧ (T.getD i (0, 0)).2 ≤ ((timesN (harder s lag k more) ms).getD i (0, 0)).2) := hid (fun i hi => HLAh.out lag hla.1 k more hmr.1 hkm i hi)
          have HUL := hid (timesN_length (harder s lag k more) ms)
          generalize timesN (harder s lag k more) ms = U at hcall HLE HUL
          have hbf := hb.trans (hb7.mono hb.size)
          have hPT7 := hPT.grown hb7
          clear hrow7 hP7 hIa7 hlg hPT hBH
          go_upto_region 26 with (go_at_call 38; refine hcall.mono ?_; rintro e w4 ⟨ua, uc, k2, rfl, hPU, hq2⟩; replace hbf := below_then hbf hq2; replace hPT7 := hPT7.grown hq2; clear hq2 z0 z1 z2 gz)
          clear hcall
          go_wp2_with fail
          go_loopw [25] (fun i wr2 => ∃ j : Nat, j ≤ ms ∧ i = .int .i64 j ∧ Below w4.heap.size w4 wr2) (fun i _ => ms - (intOf i).toNat)
          case atStart => exact ⟨0, Nat.zero_le _, rfl, Below.refl _ _⟩
          case round =>
            obtain ⟨j, hj, rfl, hB2⟩ := hrel
            by_cases hlt : j < ms
            · have hlt' : (j : Int) < ms := by omega
              have hj0 : (0 : Int) ≤ (j : Int) := by omega
              obtain ⟨b4, o4, et, t1, t2⟩ := (hPT7.grown hB2) j (by rw [HTL.out]; exact hlt)
              obtain ⟨b5, o5, eu, u1, u2⟩ := (hPU.grown hB2) j (by rw [HUL.out]; exact hlt)
              subst et eu
              obtain ⟨c1, c2⟩ := HLE.out j hlt
              generalize (T.getD j (0, 0)).1 = tl at t1 c1
              generalize (T.getD j (0, 0)).2 = th at t2 c2
              generalize (U.getD j (0, 0)).1 = ul at u1 c1
              generalize (U.getD j (0, 0)).2 = uh at u2 c2
              have m1 : ¬ ul < tl := by omega
              have m2 : ¬ uh < th := by omega
              have q1 : decide (ul < tl) = false := decide_eq_false m1
              have q2 : decide (uh < th) = false := decide_eq_false m2
              have gt := lt_of_cell t1
              have gu := lt_of_cell u1
              go_upto_region 29 with fail
              have oa : ∀ p : Over wr, p.w.cell? ⟨b4, o4 + j * 2, none⟩ = some (.int .i64 tl) := fun p => p.cell t1
              have ob : ∀ p : Over wr, p.w.cell? ⟨b4, o4 + j * 2 + 1, none⟩ = some (.int .i64 th) := fun p => p.cell t2
              have oc : ∀ p : Over wr, p.w.cell? ⟨b5, o5 + j * 2, none⟩ = some (.int .i64 ul) := fun p => p.cell u1
              have od : ∀ p : Over wr, p.w.cell? ⟨b5, o5 + j * 2 + 1, none⟩ = some (.int .i64 uh) := fun p => p.cell u2
              refine wp_region_over wr (Below.refl _ _) (by kernel_rfl) (by kernel_rfl) ?_
              repeat (go_big_quiet_step (fail))
              refine wpQuiet_nil ?_
              intro w9 hw'
              have hb9 := over_below hw'
              clear hw' oa ob oc od
              go_wp2_with fail
              go_roundw
              case rel => exact ⟨j + 1, by omega, by go_num, hB2.trans (hb9.mono hB2.size)⟩
              case measure => simp [intOf]; omega
            · have hjn : j = ms := by omega
              replace hbf := hbf.trans (hB2.mono hbf.size)
              have hlt' : ¬ (j : Int) < ms := by omega
              go_wp2_with (go_at_call 18; refine (hwk _).mono ?_; rintro e wf ⟨rfl, hq2⟩; replace hbf := below_then hbf hq2; clear hq2)
              go_ret
              exact ⟨rfl, hbf⟩

end Go.Proofs.Ytohahlnhbppnhaa
