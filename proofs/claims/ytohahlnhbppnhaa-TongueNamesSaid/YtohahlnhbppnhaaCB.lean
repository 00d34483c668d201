/- Tongue, the reference: the table of the least costs. -/
import Derived.Test.YtohahlnhbppnhaaCA
import Derived.Test.YtohahlnhbppnhaaBZ
import Derived.Test.YtohahlnhbppnhaaBW
import Derived.Test.YtohahlnhbppnhaaAY
namespace Go.Proofs.Ytohahlnhbppnhaa
open Go.RowKit
set_option linter.unusedSimpArgs false
set_option linter.unusedVariables false

theorem Try.info41 : (Try.prog.info? 41).map (fun i => (i.zero, i.size, i.bytes)) = some (some (.slice none 0 0), 1, 24) := by kernel_rfl

theorem kind_nat : ∀ t, t < 5 → kindsI.getD t (0, 0) = (((kinds.getD t (0, 0)).1 : Int), ((kinds.getD t (0, 0)).2 : Int)) := by decide
theorem kind_two : ∀ t, t < 5 → (kinds.getD t (0, 0)).1 ≤ 2 ∧ (kinds.getD t (0, 0)).2 ≤ 2 ∧ 1 ≤ (kinds.getD t (0, 0)).1 + (kinds.getD t (0, 0)).2 ∧ kinds.getD t (0, 0) ∈ kinds := by decide

theorem kinds_one (t : Nat) (ht : t < 5) (W : World) : Calls Try.prog 56 #[] W fun e w' => ∃ b, e = .returned (.slice (some ⟨b, 0, none⟩) 5 5) ∧ w'.cell? ⟨b, t * 2, none⟩ = some (.int .i64 ((kinds.getD t (0, 0)).1 : Int)) ∧ w'.cell? ⟨b, t * 2 + 1, none⟩ = some (.int .i64 ((kinds.getD t (0, 0)).2 : Int)) ∧ Below W.heap.size W w' :=
  (kinds_any W).mono fun e w' h => by
    obtain ⟨b, rfl, hp, hb⟩ := h
    obtain ⟨b', off, eb, c0, c1⟩ := hp t ht
    cases eb
    rw [Nat.zero_add] at c0 c1
    rw [kind_nat t ht] at c0 c1
    exact ⟨b, rfl, c0, c1, hb⟩

set_option maxRecDepth 100000 in
set_option maxHeartbeats 2000000 in
theorem refProof_any (L R : List Sen) (n m nc mc : Nat) (la ra : Option Addr) (w : World) (hL : L.length = n) (hR : R.length = m) (hn : n ≤ 20) (hm : m ≤ 20) (hnc : n ≤ nc) (hmc : m ≤ mc) (fL : FineR L) (fR : FineR R) (hS : TextAt w la L) (hT : TextAt w ra R) :
    Calls Try.prog 34 #[.slice la n nc, .slice ra m mc] w fun e w' => ∃ a c g, e = .returned (.slice a (n + 1) c) ∧ GridG w' w.heap.size (.slice a (n + 1) c) (n + 1) (m + 1) (halfM L R) g ∧ Below w.heap.size w w' := by
  obtain ⟨i1, hi1, hy0, hy1, hy2⟩ := info_parts Try.info41
  have hko := kinds_one
  have hpr : ∀ (a c X Y : Nat) (W : World), (X, Y) ∈ kinds → a + X ≤ n → c + Y ≤ m → Below w.heap.size w W → Calls Try.prog 57 #[.slice (subA la nc a 2) X (nc - a), .slice (subA ra mc c 2) Y (mc - c)] W fun e w' => e = .returned (.int .i64 (priceAt L R a c (X, Y) : Nat)) ∧ Below W.heap.size W w' := fun a c X Y W hk h1 h2 hb => by
    have l1 := part_len hL h1
    have l2 := part_len hR h2
    have h := refPrice_any ((L.drop a).take X) ((R.drop c).take Y) X (nc - a) Y (mc - c) (subA la nc a 2) (subA ra mc c 2) W l1 (by omega) (fL.part a X).few (by omega) ((hS.grown hb).part hL hnc a X h1) l2 (by omega) (fR.part c Y).few (by omega) ((hT.grown hb).part hR hmc c Y h2)
    rw [refPrice_is (fL.part a X).ok (fR.part c Y).ok (fL.part a X).once (fR.part c Y).once hk l1 l2] at h
    exact h
  have hsl : ∀ (a e X : Nat) W, a + X = e → e ≤ n → (Instr.slice 22 (.slice la n nc) (some (.int .i64 (a : Int))) (some (.int .i64 (e : Int))) none).run Try.prog W = .ok (.slice (subA la nc a 2) X (nc - a)) W := fun a e X W h1 h2 => by
    have h := slice22 la n nc a e (by omega) (by omega) W
    rw [show e - a = X by omega] at h
    exact h
  have hsr : ∀ (a e X : Nat) W, a + X = e → e ≤ m → (Instr.slice 22 (.slice ra m mc) (some (.int .i64 (a : Int))) (some (.int .i64 (e : Int))) none).run Try.prog W = .ok (.slice (subA ra mc a 2) X (mc - a)) W := fun a e X W h1 h2 => by
    have h := slice22 ra m mc a e (by omega) (by omega) W
    rw [show e - a = X by omega] at h
    exact h
  have HPL : Hid (∀ a c s, priceAt L R a c s ≤ 2060) := hid (fun a c s => priceM_le _ _ _ _)
  have HHB : Hid (∀ i k, 0 ≤ halfM L R i k ∧ halfM L R i k ≤ 82400) := hid (half_bd (by omega) (by omega))
  have HCA : Hid (∀ i k, i ≤ n → k ≤ m → max 0 (comeM L R i k 5) = halfM L R i k) := hid (fun i k h1 h2 => come_all fL.ok fR.ok (by omega) (by omega))
  have HCB : Hid (∀ i k t, -1 ≤ comeM L R i k t ∧ comeM L R i k t ≤ 90000) := hid (fun i k t => come_bd (by omega) (by omega) i k t)
  obtain ⟨M, hM⟩ : ∃ M, m + 1 = M := ⟨_, rfl⟩
  have wM : IntKind.i64.wrap ((m : Int) + 1) = (M : Int) := by rw [IntKind.wrap_i64]; omega
  have hmk : ∀ W : World, (Instr.makeSlice 41 (.int .i64 (M : Int)) (.int .i64 (M : Int))).run Try.prog W = .ok (.slice (some ⟨W.heap.size, 0, none⟩) M M) (W.alloc (.cells (madeCells #[.int .i64 0] M) 3)) := fun W => run_make_row' 41 3 (.int .i64 0) 8 Try.underlying41 Try.info3 rfl .i64 .i64 M (by omega) (by omega) W
  rw [hM]
  have HM := hid hM
  clear hL hR hS hT fL fR hM
  go_enter Try.func34, Try.ntmps34
  go_wp2_with fail
  go_loopw [5, 6, 7, 8, 9, 10, 11] (fun ov iv _ _ _ _ _ wr => ∃ (j : Nat) (F : Nat → Nat → Int) (g : Nat → Nat), j ≤ n + 1 ∧ iv = .int .i64 j ∧ GridG wr w.heap.size ov j M F g ∧ Hid (∀ a q, a < j → q < M → F a q = halfM L R a q) ∧ Below w.heap.size w wr) (fun _ iv _ _ _ _ _ _ => n + 1 - (intOf iv).toNat)
  case atStart => exact ⟨0, fun _ _ => 0, fun _ => 0, Nat.zero_le _, rfl, GridG.nil _ _ _ _ _, hid (fun a q h => by omega), Below.refl _ _⟩
  case round =>
    obtain ⟨j, F, g, hj, rfl, hG, HF, hB⟩ := hrel
    obtain ⟨va, vc, rfl⟩ := hG.shape
    have hmm := HM.out
    by_cases hlt : j ≤ n
    · have hlt' : (j : Int) ≤ n := by omega
      have hsz := hB.size
      have hG2 := (hG.grown (below_alloc wr (.cells (madeCells #[.int .i64 0] M) 3))).grown (below_alloc (wr.alloc (.cells (madeCells #[.int .i64 0] M) 3)) (.cells #[.slice (some ⟨wr.heap.size, 0, none⟩) M M] 41))
      have hrow2 := (World.rowIs_made wr (.int .i64 0) M 3).alloc (.cells #[.slice (some ⟨wr.heap.size, 0, none⟩) M M] 41)
      have hcn := cell_one_new (wr.alloc (.cells (madeCells #[.int .i64 0] M) 3)) (.slice (some ⟨wr.heap.size, 0, none⟩) M M) 41
      rw [World.size_alloc] at hcn
      have hlts : ∀ a, a < j → g a < wr.heap.size := fun a ha => hG.lt ha
      have hvo : (Value.slice va j vc).ownBlock ≠ some wr.heap.size := fun e => by have := (hG.own.lt _ e).2; omega
      clear hG hmm
      go_upto_region 6 with (at_builtin; refine wpList_append_own_at _ rfl _ _ 52 rfl w.heap.size 41 i1 (.slice none 0 0) 1 24 Try.underlying52 hi1 hy0 hy1 hy2 rfl (by decide) _ _ _ rfl hG2.own ⟨wr.heap.size + 1, 0, none⟩ 1 1 [.slice (some ⟨wr.heap.size, 0, none⟩) M M] rfl rfl hcn (by simp [Value.oneCell']) (by unfold maxLen; omega) (by omega) (by simp; omega) ?_; intro v' w5 hown' hgrow hnil hloc)
      have hb5 : Below w.heap.size wr w5 := ((((Below.refl w.heap.size wr).alloc (by omega) _).alloc (by simp; omega) _).grown hgrow (by simp; omega) (fun r e => (hG2.own.lt r e).1))
      have hG5 := hG2.push (G := wr.heap.size) hsz hrow2 (fun a ha => by have := hlts a ha; omega) hvo hown' hgrow hloc
      replace hB := hB.trans hb5
      obtain ⟨xa, xc, rfl⟩ := hG5.shape
      have HF5 : Hid (∀ a q, a < j → q < M → (if a = j then 0 else F a q) = halfM L R a q) := hid (fun a q h1 h2 => by rw [if_neg (by omega)]; exact HF.out a q h1 h2)
      obtain ⟨F5, hF5⟩ : ∃ f : Nat → Nat → Int, f = fun a q => if a = j then (0 : Int) else F a q := ⟨_, rfl⟩
      rw [← hF5] at hG5
      have HF6 : Hid (∀ a q, a < j → q < M → F5 a q = halfM L R a q) := hid (fun a q h1 h2 => by rw [hF5]; exact HF5.out a q h1 h2)
      generalize (fun a => if a = j then wr.heap.size else g a) = g5 at hG5
      clear hG2 hrow2 hlts hvo hown' hgrow hnil hloc hb5 HF5 hF5 HF hsz hcn
      have h1n := hj
      go_wp2_with fail
      go_loopw [7, 8, 9, 10, 11] (fun kv _ _ _ _ wx => ∃ (q : Nat) (F' : Nat → Nat → Int), q ≤ M ∧ kv = .int .i64 q ∧ GridG wx w.heap.size (.slice xa (j + 1) xc) (j + 1) M F' g5 ∧ Hid (∀ a p, (a < j ∨ a = j ∧ p < q) → p < M → F' a p = halfM L R a p) ∧ Below w.heap.size w wx) (fun kv _ _ _ _ _ => M - (intOf kv).toNat)
      case atStart => exact ⟨0, F5, Nat.zero_le _, rfl, hG5, hid (fun a p h1 h2 => by rcases h1 with h | ⟨_, h⟩; exact HF6.out a p h h2; omega), hB⟩
      case round =>
        clear hG5 hB HF6
        obtain ⟨q, F', hq, rfl, hG, HF, hB⟩ := hrel
        have hmm := HM.out
        by_cases hlq : q ≤ m
        · have hlq' : (q : Int) ≤ m := by omega
          have HRD : Hid (∀ e f, (e < j ∨ e = j ∧ f < q) → f < M → ∃ ob, xa = some ⟨ob, 0, none⟩ ∧ wr.cell? ⟨ob, e, none⟩ = some (.slice (some ⟨g5 e, 0, none⟩) M M) ∧ wr.cell? ⟨g5 e, f, none⟩ = some (.int .i64 (halfM L R e f))) := hid (fun e f h1 h2 => by
            obtain ⟨ob, eo, c0, c1⟩ := hG.read (i := e) (by omega)
            refine ⟨ob, eo, c0, ?_⟩
            rw [← HF.out e f h1 h2]
            exact c1 f h2)
          have hqM : q < M := by omega
          clear hmm
          go_wp2_with fail
          go_loopw [8, 9, 10, 11] (fun bv mv _ _ wx => ∃ (t : Nat) (b : Int), t ≤ 5 ∧ mv = .int .i64 t ∧ bv = .int .i64 b ∧ Hid (b = comeM L R j q t) ∧ -1 ≤ b ∧ b ≤ 90000 ∧ Below wr.heap.size wr wx) (fun _ mv _ _ _ => 5 - (intOf mv).toNat)
          case atStart => exact ⟨0, -1, Nat.zero_le _, rfl, rfl, hid rfl, by omega, by omega, Below.refl _ _⟩
          case round =>
            obtain ⟨t, b, ht, rfl, rfl, HBT, bb1, bb2, hBx⟩ := hrel
            by_cases hl5 : t < 5
            · have hl5' : (t : Int) < 5 := by omega
              have hko1 := fun W => hko t hl5 W
              obtain ⟨u1, u2, u3, u4⟩ := kind_two t hl5
              have hcs := comeM_succ L R j q t
              have hpl := HPL.out
              generalize kinds.getD t (0, 0) = s at hko1 u1 u2 u3 u4 hcs
              obtain ⟨x, y⟩ := s
              simp only at hko1 u1 u2 u3 hcs
              have HCS := hid hcs
              have hcb := HCB.out j q (t + 1)
              rw [← HBT.out] at hcs
              have HCS2 := hid hcs
              have htn : ((t : Nat) : Int) < 5 := hl5'
              have ht0 : (0 : Int) ≤ (t : Int) := by omega
              clear hcs HCS
              go_upto_region 14 with (first | (go_at_call 56; refine (hko1 _).mono ?_; rintro e wk ⟨kb, rfl, k0, k1, hqk⟩; have hBk := below_then hBx hqk; clear hqk))
              obtain ⟨ws, hws⟩ : ∃ X, X = wk.alloc (.cells #[.int .i64 (x : Int), .int .i64 (y : Int)] 37) := ⟨_, rfl⟩
              have hBs := below_then hBk (below_alloc wk (.cells #[.int .i64 (x : Int), .int .i64 (y : Int)] 37))
              have s0 : ws.cell? ⟨wk.heap.size, 0, none⟩ = some (.int .i64 (x : Int)) := by rw [hws]; simp [go_sem]
              have s1 : ws.cell? ⟨wk.heap.size, 1, none⟩ = some (.int .i64 (y : Int)) := by rw [hws]; simp [go_sem]
              rw [← hws] at hBs ⊢
              have gs := lt_of_cell s0
              clear hws k0 k1 hBk hBx hko1
              by_cases hx : x ≤ j
              · by_cases hy : y ≤ q
                · have hx' : ¬ (j : Int) < (x : Int) := by omega
                  have hy' : ¬ (q : Int) < (y : Int) := by omega
                  obtain ⟨e, he⟩ : ∃ e, j - x = e := ⟨_, rfl⟩
                  obtain ⟨f, hf⟩ : ∃ f, q - y = f := ⟨_, rfl⟩
                  have hcs := HCS2.out
                  rw [if_pos ⟨hx, hy⟩, he, hf] at hcs
                  obtain ⟨ob, eo, c0, c1⟩ := HRD.out e f (by omega) (by omega)
                  subst eo
                  have hpb := HPL.out e f (x, y)
                  have hpc := fun W hb => hpr e f x y W u4 (by omega) (by omega) hb
                  have hse := fun W => hsl e j x W (by omega) (by omega)
                  have hsf := fun W => hsr f q y W (by omega) (by omega)
                  have hhb := HHB.out e f
                  generalize priceAt L R e f (x, y) = pr at hcs hpb hpc
                  generalize halfM L R e f = hv at hcs c1 hhb
                  have HCS3 := hid hcs
                  have w1 : IntKind.i64.wrap ((j : Int) - x) = (e : Int) := by rw [IntKind.wrap_i64]; omega
                  have w2 : IntKind.i64.wrap ((q : Int) - y) = (f : Int) := by rw [IntKind.wrap_i64]; omega
                  have w3 : IntKind.i64.wrap (hv + (pr : Int)) = hv + (pr : Int) := by rw [IntKind.wrap_i64]; omega
                  have e0 : (0 : Int) ≤ (e : Int) := by omega
                  have e1 : (e : Int) < ((j + 1 : Nat) : Int) := by omega
                  have e1' : (e : Int) < (j : Int) + 1 := by omega
                  have f0 : (0 : Int) ≤ (f : Int) := by omega
                  have f1 : (f : Int) < (M : Int) := by omega
                  replace c0 := cell_grown hBs c0
                  replace c1 := cell_grown hBs c1
                  have gc := lt_of_cell c0
                  have gd := lt_of_cell c1
                  have hBw := below_then hB hBs
                  clear he hf hcs hcb hpl
                  go_wp2_with fail
                  have oa : ∀ p : Over ws, p.w.cell? ⟨wk.heap.size, 0, none⟩ = some (.int .i64 (x : Int)) := fun p => p.cell s0
                  have ob' : ∀ p : Over ws, p.w.cell? ⟨wk.heap.size, 1, none⟩ = some (.int .i64 (y : Int)) := fun p => p.cell s1
                  have oc : ∀ p : Over ws, p.w.cell? ⟨ob, e, none⟩ = some (.slice (some ⟨g5 e, 0, none⟩) M M) := fun p => p.cell c0
                  have od : ∀ p : Over ws, p.w.cell? ⟨g5 e, f, none⟩ = some (.int .i64 hv) := fun p => p.cell c1
                  have hcA : ∀ p : Over ws, _ := fun p => hpc p.w (below_then hBw p.h)
                  refine wp_region_over ws (Below.refl _ _) (by kernel_rfl) (by kernel_rfl) ?_
                  repeat (go_big_quiet_step (first | (go_at_call 57; exact Calls.over_of (hcA _))))
                  refine wpQuiet_nil ?_
                  intro wz hw'
                  have hbz := below_then hBs (over_below hw')
                  clear hw' oa ob' oc od hcA c0 c1 s0 s1 w1 w2 w3 gs gc gd hse hsf hpc
                  obtain ⟨z, hz⟩ : ∃ z, hv + (pr : Int) = z := ⟨_, rfl⟩
                  simp only [hz]
                  have hzb : 0 ≤ z ∧ z ≤ 90000 := by omega
                  have HZ := hid hz
                  clear hz
                  by_cases hbet : b < 0 ∨ z < b
                  · have HNB : Hid (comeM L R j q (t + 1) = z) := hid (by rw [HCS3.out, HZ.out]; unfold betterM; rw [if_pos hbet])
                    rcases Int.lt_or_le b 0 with hb0 | hb0
                    · clear hbet
                      go_wp2_with fail
                      go_roundw
                      case rel => exact ⟨t + 1, z, by omega, by go_num, rfl, hid HNB.out.symm, by omega, by omega, hbz⟩
                      case measure => simp [intOf]; omega
                    · have hb1 : ¬ b < 0 := by omega
                      have hb2 : z < b := by omega
                      clear hbet
                      go_wp2_with fail
                      go_roundw
                      case rel => exact ⟨t + 1, z, by omega, by go_num, rfl, hid HNB.out.symm, by omega, by omega, hbz⟩
                      case measure => simp [intOf]; omega
                  · have HNB : Hid (comeM L R j q (t + 1) = b) := hid (by rw [HCS3.out, HZ.out]; unfold betterM; rw [if_neg hbet])
                    have hb1 : ¬ b < 0 := by omega
                    have hb2 : ¬ z < b := by omega
                    clear hbet
                    go_wp2_with fail
                    go_roundw
                    case rel => exact ⟨t + 1, b, by omega, by go_num, rfl, hid HNB.out.symm, by omega, by omega, hbz⟩
                    case measure => simp [intOf]; omega
                · have hx' : ¬ (j : Int) < (x : Int) := by omega
                  have hy' : (q : Int) < (y : Int) := by omega
                  have HNB : Hid (comeM L R j q (t + 1) = b) := hid (by rw [HCS2.out, if_neg (by omega)])
                  clear hcb hpl
                  go_wp2_with fail
                  go_roundw
                  case rel => exact ⟨t + 1, b, by omega, by go_num, rfl, hid HNB.out.symm, by omega, by omega, hBs⟩
                  case measure => simp [intOf]; omega
              · have hx' : (j : Int) < (x : Int) := by omega
                have HNB : Hid (comeM L R j q (t + 1) = b) := hid (by rw [HCS2.out, if_neg (by omega)])
                clear hcb hpl
                go_wp2_with fail
                go_roundw
                case rel => exact ⟨t + 1, b, by omega, by go_num, rfl, hid HNB.out.symm, by omega, by omega, hBs⟩
                case measure => simp [intOf]; omega
            · have h5 : t = 5 := by omega
              subst h5
              have hGx := hG.grown hBx
              obtain ⟨ob, eo, c0, c1⟩ := hGx.read (i := j) (by omega)
              replace c1 := c1 q hqM
              subst eo
              have fr := (hGx.row j (by omega)).frozen q
              have gc := lt_of_cell c0
              have gd := lt_of_cell c1
              obtain ⟨mx, hmx⟩ : ∃ z, (if (0 : Int) < b then b else 0) = z := ⟨_, rfl⟩
              have HMX : Hid (mx = halfM L R j q) := hid (by
                rw [← HCA.out j q hlt hlq, ← HBT.out, ← hmx]
                split <;> omega)
              have e1 : (j : Int) < ((j + 1 : Nat) : Int) := by omega
              have e1' : (j : Int) < (j : Int) + 1 := by omega
              have f1 : (q : Int) < (M : Int) := by omega
              have hBw := below_then hB hBx
              go_wp2_with fail
              go_roundw
              case rel => exact ⟨q + 1, _, by omega, by go_num, hGx.put (i := j) (by omega) q mx, hid (fun a p h1 h2 => by
                by_cases e : a = j ∧ p = q
                · rw [if_pos e, HMX.out, e.1, e.2]
                · rw [if_neg e]; exact HF.out a p (by omega) h2), hBw.setCell (p := ⟨g5 j, q, none⟩) (hG.low j (by omega)) _⟩
              case measure => simp [intOf]; omega
        · have hqM : q = M := by omega
          subst hqM
          clear hmm
          go_wp2_with fail
          go_roundw
          case rel => exact ⟨j + 1, F', g5, by omega, by go_num, hG, hid (fun a p h1 h2 => HF.out a p (by omega) h2), hB⟩
          case measure => simp [intOf]; omega
    · have hjn : j = n + 1 := by omega
      subst hjn
      go_wp2_with fail
      go_ret
      exact ⟨va, vc, g, rfl, hG.congr (fun a q h1 h2 => HF.out a q h1 h2), hB⟩

end Go.Proofs.Ytohahlnhbppnhaa
