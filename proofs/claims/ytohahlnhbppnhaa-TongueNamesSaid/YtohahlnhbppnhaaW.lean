/- Tongue: what steps cost. -/
import Derived.Test.YtohahlnhbppnhaaV
namespace Go.Proofs.Ytohahlnhbppnhaa
open Go.RowKit
set_option linter.unusedSimpArgs false
set_option linter.unusedVariables false

/-- What steps that are taken cost. -/
def costM (L R : List Sen) (ms : List (Nat × Nat × Nat × Nat)) : Nat := (ms.map fun m => priceAt L R m.1 m.2.1 m.2.2).sum

theorem costM_take (L R : List Sen) (ms : List (Nat × Nat × Nat × Nat)) (j : Nat) (hj : j < ms.length) : costM L R (ms.take (j + 1)) = costM L R (ms.take j) + priceAt L R (ms.getD j default).1 (ms.getD j default).2.1 (ms.getD j default).2.2 := by
  unfold costM
  rw [List.take_add_one, List.getElem?_eq_getElem hj, List.getD_eq_getElem?_getD, List.getElem?_eq_getElem hj, List.map_append, List.sum_append]
  simp only [Option.toList, List.map_cons, List.map_nil, List.sum_cons, List.sum_nil, Nat.add_zero, Option.getD_some]

theorem match_parts {nl nr : Nat} {l : List (Int × Int)} {ms : List (Nat × Nat × Nat × Nat)} (h : matchM nl nr l = some ms) : goM nl nr l 0 0 = some (ms, nl, nr) := by
  unfold matchM at h
  cases hg : goM nl nr l 0 0 with
  | none => rw [hg] at h; cases h
  | some r =>
    obtain ⟨ns, a, c⟩ := r
    rw [hg] at h
    simp only at h
    by_cases hac : a = nl ∧ c = nr
    · rw [if_pos hac] at h
      cases h
      rw [hac.1, hac.2]
    · rw [if_neg hac] at h
      cases h

def Fits (nl nr : Nat) (ms : List (Nat × Nat × Nat × Nat)) : Prop := ∀ m ∈ ms, m.1 + m.2.2.1 ≤ nl ∧ m.2.1 + m.2.2.2 ≤ nr ∧ m.2.2.1 ≤ 2 ∧ m.2.2.2 ≤ 2 ∧ 1 ≤ m.2.2.1 + m.2.2.2

theorem match_fits {nl nr : Nat} {l : List (Int × Int)} {ms : List (Nat × Nat × Nat × Nat)} (h : matchM nl nr l = some ms) : ms.length = l.length ∧ Fits nl nr ms := by
  have := goM_le (Nat.zero_le nl) (Nat.zero_le nr) (match_parts h)
  exact ⟨this.2.2.1, this.2.2.2⟩

set_option maxRecDepth 100000 in
set_option maxHeartbeats 1000000 in
theorem cost_any (L R : List Sen) (nl cl nr cr n b b0 b2 mc : Nat) (la ra ma : Option Addr) (ms : List (Nat × Nat × Nat × Nat)) (w : World) (hL : L.length = nl) (hR : R.length = nr) (fL : FineT L) (fR : FineT R) (hcl : nl ≤ cl) (hcr : nr ≤ cr) (hS : TextAt w la L) (hT : TextAt w ra R)
    (hm : ms.length = n) (hn : n ≤ 1000) (hf : Fits nl nr ms) (hC : ChargesAt w b b0 b2) (hM : MovesAt w ma la cl ra cr ms) :
    Calls Try.prog 59 #[.agg #[.slice la nl cl, .int .u8 0, .int .i64 0, .slice ra nr cr, .int .u8 1, .int .i64 0, .slice (some ⟨b, 0, none⟩) 3 3, .slice ma n mc]] w fun e w' => e = .returned (.int .i64 (costM L R ms : Nat)) ∧ Below w.heap.size w w' := by
  obtain ⟨pb, hpb⟩ : ∃ q, q = w.heap.size := ⟨_, rfl⟩
  obtain ⟨W0, hW0⟩ : ∃ X, X = w.alloc (.cells #[.slice la nl cl, .int .u8 0, .int .i64 0, .slice ra nr cr, .int .u8 1, .int .i64 0, .slice (some ⟨b, 0, none⟩) 3 3, .slice ma n mc] 128) := ⟨_, rfl⟩
  have hB0 : Below w.heap.size w W0 := by rw [hW0]; exact below_alloc _ _
  have s0 : W0.heap.size = pb + 1 := by rw [hW0, hpb]; simp
  have p0' : W0.cell? ⟨pb, 0, none⟩ = some (.slice la nl cl) := by rw [hW0, hpb]; simp [go_sem]
  have p1' : W0.cell? ⟨pb, 1, none⟩ = some (.int .u8 0) := by rw [hW0, hpb]; simp [go_sem]
  have p2' : W0.cell? ⟨pb, 2, none⟩ = some (.int .i64 0) := by rw [hW0, hpb]; simp [go_sem]
  have p3' : W0.cell? ⟨pb, 3, none⟩ = some (.slice ra nr cr) := by rw [hW0, hpb]; simp [go_sem]
  have p4' : W0.cell? ⟨pb, 4, none⟩ = some (.int .u8 1) := by rw [hW0, hpb]; simp [go_sem]
  have p5' : W0.cell? ⟨pb, 5, none⟩ = some (.int .i64 0) := by rw [hW0, hpb]; simp [go_sem]
  have p6' : W0.cell? ⟨pb, 6, none⟩ = some (.slice (some ⟨b, 0, none⟩) 3 3) := by rw [hW0, hpb]; simp [go_sem]
  have p7' : W0.cell? ⟨pb, 7, none⟩ = some (.slice ma n mc) := by rw [hW0, hpb]; simp [go_sem]
  have hnl : nl ≤ 1000 := by rw [← hL]; exact fL.1
  have hnr : nr ≤ 1000 := by rw [← hR]; exact fR.1
  replace hC := hC.grown hB0
  replace hM := hM.grown hB0
  replace hS := hS.grown hB0
  replace hT := hT.grown hB0
  have hpr : ∀ (Z : World) (i k x y : Nat), Below W0.heap.size W0 Z → i + x ≤ nl → k + y ≤ nr → x ≤ 2 → y ≤ 2 → Calls Try.prog 81 #[.agg #[.slice la nl cl, .int .u8 0, .int .i64 0, .slice ra nr cr, .int .u8 1, .int .i64 0, .slice (some ⟨b, 0, none⟩) 3 3], .agg #[.int .i64 (x : Int), .int .i64 (y : Int), .slice (subA la cl i 2) x (cl - i), .int .u8 0, .int .i64 (i : Int), .slice (subA ra cr k 2) y (cr - k), .int .u8 1, .int .i64 (k : Int)]] Z fun e w' =>
      e = .returned (.int .i64 (priceAt L R i k (x, y) : Nat)) ∧ Below Z.heap.size Z w' := fun Z i k x y hbz h1 h2 h3 h4 =>
    price_any ((L.drop i).take x) ((R.drop k).take y) x y 0 1 0 1 x (cl - i) y (cr - k) b b0 b2 nl cl nr cr i k 0 0 (subA la cl i 2) (subA ra cr k 2) la ra Z h3 h4 (by simp; omega) (by simp; omega) (fL.part _ _) (fR.part _ _) ((hS.grown hbz).part hL hcl i x h1) ((hT.grown hbz).part hR hcr k y h2) (hC.grown hbz)
  have HM := hid hm
  clear hm hL hR fL fR hS hT hC
  go_enter Try.func59, Try.ntmps59
  go_wp2_with fail
  rw [← hW0, ← hpb]
  have gp := lt_of_cell p0'
  clear hpb hW0 s0
  go_loopw [3, 9] (fun v i wr => ∃ j s : Nat, j ≤ n ∧ i = .int .i64 j ∧ v = .int .i64 s ∧ Hid (s = costM L R (ms.take j)) ∧ s ≤ 2060 * j ∧ Below W0.heap.size W0 wr) (fun _ i _ => n - (intOf i).toNat)
  case atStart => exact ⟨0, 0, Nat.zero_le _, rfl, rfl, hid rfl, Nat.zero_le _, Below.refl _ _⟩
  case round =>
    obtain ⟨j, s, hj, rfl, rfl, HS, hs, hB⟩ := hrel
    have p0 := cell_grown hB p0'
    have p1 := cell_grown hB p1'
    have p2 := cell_grown hB p2'
    have p3 := cell_grown hB p3'
    have p4 := cell_grown hB p4'
    have p5 := cell_grown hB p5'
    have p6 := cell_grown hB p6'
    have p7 := cell_grown hB p7'
    have gq := lt_of_cell p0
    by_cases hlt : j < n
    · have hlt' : (j : Int) < n := by omega
      obtain ⟨eb, off, ea, hc⟩ := (hM.grown hB) j (by rw [HM.out]; exact hlt)
      subst ea
      obtain ⟨m, hm⟩ : ∃ m, ms.getD j default = m := ⟨_, rfl⟩
      obtain ⟨c0, c1, c2, c3, c4, c5, c6, c7⟩ := hc m hm
      have hmem : m ∈ ms := by
        rw [← hm, List.getD_eq_getElem?_getD, List.getElem?_eq_getElem (by rw [HM.out]; exact hlt)]
        exact List.getElem_mem _
      obtain ⟨f1, f2, f3, f4, f5⟩ := hf m hmem
      have hst := costM_take L R ms j (by rw [HM.out]; exact hlt)
      rw [hm] at hst
      obtain ⟨i, k, x, y⟩ := m
      simp only at c0 c1 c2 c3 c4 c5 c6 c7 f1 f2 f3 f4 f5 hst
      clear hmem hm hc
      have ge := lt_of_cell c0
      have hple : priceAt L R i k (x, y) ≤ 2060 := priceM_le _ _ _ _
      have HP := hid hst
      clear hst
      have hcall := fun Z h => hpr Z i k x y h f1 f2 f3 f4
      generalize priceAt L R i k (x, y) = q at hple HP hcall
      go_wp2_with (go_at_call 81; refine (hcall _ (below_then hB (below_alloc _ _))).mono ?_; rintro e w2 ⟨rfl, hb2⟩)
      go_roundw
      case rel => exact ⟨j + 1, s + q, by omega, by go_num, by go_num, hid (by rw [HP.out, HS.out]), by omega, below_then hB (below_then (below_alloc _ _) hb2)⟩
      case measure => simp [intOf]; omega
    · have hjn : j = n := by omega
      subst hjn
      have hfin : s = costM L R ms := by
        have := HS.out
        rwa [← HM.out, List.take_length] at this
      have HF := hid hfin
      clear hfin
      go_wp2_with fail
      go_ret
      exact ⟨by rw [HF.out]; rfl, hB0.trans (hB.mono hB0.size)⟩

def CostPost (L R : List Sen) (l : List (Int × Int)) (w : World) (e : Ending) (w' : World) : Prop :=
  Below w.heap.size w w' ∧ ((faultM L R ≠ 0 ∧ e = .returned (.tuple #[.int .i64 0, .int .i64 (faultM L R)])) ∨
    (faultM L R = 0 ∧ matchM L.length R.length l = none ∧ e = .returned (.tuple #[.int .i64 0, .int .i64 9])) ∨
    (faultM L R = 0 ∧ ∃ ms, matchM L.length R.length l = some ms ∧ e = .returned (.tuple #[.int .i64 (costM L R ms : Nat), .int .i64 0])))

set_option maxHeartbeats 1000000 in
theorem costOf_any (L R : List Sen) (nl cl nr cr : Nat) (la ra : Option Addr) (w : World) (hL : L.length = nl) (hR : R.length = nr) (sL : Small L) (sR : Small R) (hS : TextAt w la L) (hT : TextAt w ra R) (hcl : nl ≤ cl) (hcr : nr ≤ cr) (l : List (Int × Int)) (n sc : Nat) (sa : Option Addr) (hl : l.length = n) (hn : n ≤ 1000) (hP : PairsAt w sa l) :
    Calls Try.prog 23 #[.slice la nl cl, .slice ra nr cr, .slice sa n sc] w (CostPost L R l w) := by
  have hmo := matchOf_any L R nl cl nr cr la ra w hL hR sL sR hS hT hcl hcr l n sc sa hl hn hP
  unfold CostPost
  rw [hL, hR]
  go_enter Try.func23, Try.ntmps23
  go_wp2_with (go_at_call 58; refine hmo.mono ?_; clear hmo; rintro e w1 ⟨hb1, ⟨hne, rfl⟩ | ⟨hz, hmm, rfl⟩ | ⟨hz, ms, b, b0, b2, ma, mc, hmm, rfl, hch, hmv⟩⟩)
  · have h0' : ((faultM L R : Int) != 0) = true := by simp [hne]
    generalize faultM L R = z at hne h0' ⊢
    go_wp2_with fail
    exact bodyPost_ret (v := .tuple #[.int .i64 0, .int .i64 z]) (by simp [results, Try.f23, go_sem]) rfl ⟨hb1.alloc hb1.size _, .inl ⟨hne, rfl⟩⟩
  · go_wp2_with fail
    exact bodyPost_ret (v := .tuple #[.int .i64 0, .int .i64 9]) (by simp [results, Try.f23, go_sem]) rfl ⟨hb1.alloc hb1.size _, .inr (.inl ⟨hz, hmm, rfl⟩)⟩
  · have hfc := match_fits hmm
    obtain ⟨l1, l2, v1, v2⟩ := fault_zero hz
    have hco := fun W hbW => cost_any L R nl cl nr cr ms.length b b0 b2 mc la ra ma ms W hL hR (fine_of L l1 v1).1 (fine_of R l2 v2).1 hcl hcr (hS.grown (below_then hb1 hbW)) (hT.grown (below_then hb1 hbW)) rfl (by rw [hfc.1, hl]; exact hn) hfc.2 (hch.grown hbW) (hmv.grown hbW)
    have HMM := hid hmm
    clear hmm hfc l1 l2 v1 v2 hch hmv hS hT hP sL sR
    go_wp2_with (go_at_call 59; refine (hco _ (below_alloc _ _)).mono ?_; rintro e w2 ⟨rfl, hb2⟩)
    exact bodyPost_ret (v := .tuple #[.int .i64 (costM L R ms : Nat), .int .i64 0]) (by simp [results, Try.f23, go_sem]) rfl ⟨below_then hb1 (below_then (below_alloc _ _) hb2), .inr (.inr ⟨hz, ms, HMM.out, rfl⟩)⟩

end Go.Proofs.Ytohahlnhbppnhaa
