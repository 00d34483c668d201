/- Tongue, the laws: the report that counts has each step once. -/
import Derived.Test.YtohahlnhbppnhaaBR
import Derived.Test.YtohahlnhbppnhaaBA
import Derived.Test.YtohahlnhbppnhaaBP
namespace Go.Proofs.Ytohahlnhbppnhaa
open Go.RowKit
set_option linter.unusedSimpArgs false
set_option linter.unusedVariables false

theorem piece68_neq (x1 x2 y1 y2 : Int) (w : World) : (binOp .neq 68 (.agg #[.int .u8 x1, .int .i64 x2]) (.agg #[.int .u8 y1, .int .i64 y2])).run Try.prog w = .ok (.bool (!decide (x1 = y1 ∧ x2 = y2))) w := by
  have h : (binOp .eql 68 (.agg #[.int .u8 x1, .int .i64 x2]) (.agg #[.int .u8 y1, .int .i64 y2])).run Try.prog w = .ok (.bool (decide (x1 = y1 ∧ x2 = y2))) w := by
    have u3 := Try.underlying3
    have a3 := Try.isAgg3
    have z3 := Try.sizeOf3
    have u5 := Try.underlying5
    have a5 := Try.isAgg5
    have z5 := Try.sizeOf5
    have hS : Try.prog.underlying 68 = some (.struct (Try.prog.fieldsOf 68)) := by kernel_rfl
    have hp : Try.prog.stoodInHeld 68 = false := by kernel_rfl
    rw [run_eql_struct, show (10000 : Nat) = 9999 + 1 from rfl, run_equalIn_agg w 9999 68 _ _ hS hp]
    simp only [Program.fieldsOf, Try.underlying68]
    go_simp
    by_cases h1 : x1 = y1 <;> by_cases h2 : x2 = y2 <;> simp [h1, h2]
  rw [run_eql_struct] at h
  rw [run_neq_struct]
  cases hr : (Op.equalIn 10000 68 (.agg #[.int .u8 x1, .int .i64 x2]) (.agg #[.int .u8 y1, .int .i64 y2])).run Try.prog w with
  | ok v w' =>
    rw [hr] at h
    simp only [Result.andThen, Result.ok.injEq, Value.bool.injEq] at h ⊢
    obtain ⟨rfl, rfl⟩ := h
    exact ⟨rfl, rfl⟩
  | halt x w' => rw [hr] at h; cases h

theorem Try.guard68 : Try.prog.eqGuardType Try.prog.depth 68 = false := by kernel_rfl

/-- Two rows have no block in common. -/
def Sundered (v u : Value) : Prop := ∀ b, v.ownBlock = some b → u.ownBlock ≠ some b

theorem Sundered.symm {v u : Value} (h : Sundered v u) : Sundered u v := fun b h1 h2 => h b h2 h1

theorem Sundered.pushed {W : World} {B : Nat} {e : TypeId} {size n : Nat} {xs : List Value} {v v' u : Value} (h : Sundered v u) (hu : W.ownsRow B e size u n xs) (hloc : v'.ownBlock = v.ownBlock ∨ v'.ownBlock = some W.heap.size) : Sundered v' u := fun b h1 h2 => by
  rcases hloc with e | e
  · exact h b (e ▸ h1) h2
  · rw [e] at h1
    cases h1
    have := (hu.lt _ h2).2
    omega

theorem Sundered.kept {W W' : World} {B : Nat} {e : TypeId} {size n : Nat} {xs : List Value} {v u : Value} (h : Sundered v u) (hu : W.ownsRow B e size u n xs) (hg : W.grownBy W' v.ownBlock) : W'.ownsRow B e size u n xs :=
  hu.kept hg (by
    cases hb : u.ownBlock with
    | none => exact .inl rfl
    | some b => exact .inr (fun h1 => h b h1.symm hb))

def bitAt (leads : Int) (j : Nat) : Bool := (leads / 2 ^ j).tmod 2 == 1
def bitsM (leads : Int) (j : Nat) : List Bool := (List.range j).map (bitAt leads)

theorem bitsM_succ (leads : Int) (j : Nat) : bitsM leads (j + 1) = bitsM leads j ++ [bitAt leads j] := by
  unfold bitsM
  rw [List.range_succ, List.map_append]
  rfl

theorem bitsM_length (leads : Int) (j : Nat) : (bitsM leads j).length = j := by simp [bitsM]

def truesM (j : Nat) : List Bool := List.replicate j true

theorem truesM_succ (j : Nat) : truesM (j + 1) = truesM j ++ [true] := by
  unfold truesM
  rw [List.replicate_succ']

theorem truesM_length (j : Nat) : (truesM j).length = j := by simp [truesM]

set_option maxRecDepth 100000 in
set_option maxHeartbeats 4000000 in
theorem onceLaw_any (L R : List Sen) (ws : List Int) (leads : Int) (n m nc mc wn wc : Nat) (la ra wa : Option Addr) (w : World) (hL : L.length = n) (hR : R.length = m) (hn : n ≤ 9223372036854775807) (hm : m ≤ 9223372036854775807) (hw : ws.length = wn) (hwn : wn ≤ 9223372036854775807) (hS : TextAt w la L) (hT : TextAt w ra R) (hW : BytesAt w wa ws) (hld : 0 ≤ leads ∧ leads ≤ 4294967295) :
    Calls Try.prog 10 #[.slice la n nc, .slice ra m mc, .slice wa wn wc, .int .u32 leads] w fun e w' => e = .returned (.bool true) ∧ Below w.heap.size w w' := by
  have hr := ready_any L R n m nc mc la ra w hL hR hn hm hS hT
  have hwk := fun W => wakes_any W
  obtain ⟨i0, hi0, hz0, hz1, hz2⟩ := info_parts Try.info4
  obtain ⟨r, hre⟩ : ∃ r, readyM L R = r := ⟨_, rfl⟩
  rw [hre] at hr
  have hb : Below w.heap.size w w := Below.refl _ _
  cases r
  · clear hS hT hW hL hR hre
    go_enter Try.func10, Try.ntmps10
    go_wp2_with (first | (go_at_call 48; refine hr.mono ?_; rintro e w1 ⟨rfl, hb1⟩) | (go_at_call 18; refine (hwk _).mono ?_; rintro e w2 ⟨rfl, hb2⟩))
    go_ret
    exact ⟨rfl, below_then hb1 hb2⟩
  unfold readyM at hre
  simp only [Bool.and_eq_true, decide_eq_true_eq] at hre
  obtain ⟨hfe, hf⟩ := hre
  obtain ⟨k1, k2, k3, k4⟩ := few_parts hfe
  have sL := fine_small ⟨k1, k3⟩
  have sR := fine_small ⟨k2, k4⟩
  have hTL := fun W hS => text_any L n nc la W hL (by omega) (fun s hs => by have := k3 s hs; omega) hS
  have hTR := fun W hT => text_any R m mc ra W hR (by omega) (fun s hs => by have := k4 s hs; omega) hT
  have hch := fun W hW => chosen_any n m nc mc wn wc la ra wa ws W (by omega) (by omega) hw hwn hW
  have hCO := fun a ac b bc W hA hB h1 h2 l sc sa hP hl lead ld lc hln hLd => countsOf_any L R n ac m bc a b W hL hR sL sR hA hB h1 h2 l l.length sc sa rfl hl hP lead n lc ld hln (by omega) hLd
  have hn22 : n ≤ 22 := by omega
  have hm22 : m ≤ 22 := by omega
  have hSx := hS
  have hTx := hT
  have hWx := hW
  have HF := hid hf
  have HLL := hid hL
  have HRR := hid hR
  clear hf hfe k1 k2 k3 k4 sL sR hL hR hS hT hW
  go_enter Try.func10, Try.ntmps10
  go_upto_region 4 with (first | (go_at_call 48; refine hr.mono ?_; rintro e wq ⟨rfl, hq⟩; replace hSx := hSx.grown hq; replace hTx := hTx.grown hq; replace hWx := hWx.grown hq; replace hb := below_then hb hq; clear hq) | (go_at_call 49; refine (hch _ hWx).mono ?_; rintro e wq ⟨l, ms, sa, sc, rfl, hPl, hmt, hll, hq⟩; replace hSx := hSx.grown hq; replace hTx := hTx.grown hq; replace hb := below_then hb hq; clear hq))
  clear hr hch hWx
  have hfits := match_fits hmt
  have hlen := hfits.1
  have hll2 : l.length ≤ 44 := by omega
  have hCV : ∀ (lead : List Bool) a ac b bc ss ssc ld lc W, lead.length = n → TextAt W a L → TextAt W b R → n ≤ ac → m ≤ bc → PairsAt W ss l → BoolsAt W ld lead → Calls Try.prog 36 #[.slice a n ac, .slice b m bc, .slice ss l.length ssc, .slice ld n lc] W fun e w' => ∃ pa pc, e = .returned (.tuple #[.slice pa (countM lead ms ms.length).length pc, .int .i64 0]) ∧ PiecesAt w' pa (countM lead ms ms.length) ∧ (countM lead ms ms.length).length ≤ 88 ∧ Below W.heap.size W w' := fun lead a ac b bc ss ssc ld lc W hln hA hB h1 h2 hP hLd => by
    refine (hCO a ac b bc W hA hB h1 h2 l ssc ss hP (by omega) lead ld lc hln hLd).mono ?_
    rintro e w' ⟨hb, ⟨hne, -⟩ | ⟨-, hmm, -⟩ | ⟨-, -, hll, -⟩ | ⟨-, -, ms', a, cap, hmm, rfl, hI, hle⟩⟩
    · exact (hne HF.out).elim
    · rw [HLL.out, HRR.out, hmt] at hmm; cases hmm
    · exact (hll (by rw [hln, HLL.out])).elim
    · rw [HLL.out, HRR.out, hmt] at hmm
      cases hmm
      exact ⟨a, cap, rfl, hI, by omega, hb⟩
  have hST := fun W hP => steps_any l l.length sc sa W rfl (by omega) hP
  have HMT := hid hmt
  have HLN := hid hlen
  have HFI : Hid (Fits n m ms) := hid hfits.2
  clear hCO hmt hlen hfits
  obtain ⟨N, hN⟩ : ∃ N, l.length = N := ⟨_, rfl⟩
  simp only [hN] at hCV hST hll2 ⊢
  have HN := hid hN
  clear hN hll
  go_wp2_with fail
  go_loopw [10, 11, 12] (fun u v i wr => ∃ j : Nat, j ≤ n ∧ i = .int .i64 j ∧ wr.ownsRow wq.heap.size 4 1 u j ((bitsM leads j).map fun z => .bool z) ∧ wr.ownsRow wq.heap.size 4 1 v j ((truesM j).map fun z => .bool z) ∧ Sundered u v ∧ Below wq.heap.size wq wr) (fun _ _ i _ => n - (intOf i).toNat)
  case atStart => exact ⟨0, Nat.zero_le _, rfl, World.ownsRow_nil _ _ _ _, World.ownsRow_nil _ _ _ _, (fun b h => by cases h), Below.refl _ _⟩
  case round =>
    obtain ⟨j, hj, rfl, hou, hov, hsu, hB⟩ := hrel
    obtain ⟨ua, uc, rfl⟩ := owns_shape hou
    obtain ⟨va, vc, rfl⟩ := owns_shape hov
    have hsz := hB.size
    by_cases hlt : j < n
    · have hlt' : (j : Int) < n := by omega
      have hou1 := book_owns hou (grown_none (below_alloc wr (.cells #[.bool ((leads / 2 ^ j).tmod 2 == 1)] 4))) (fun r e => by cases e)
      have hov1 := book_owns hov (grown_none (below_alloc wr (.cells #[.bool ((leads / 2 ^ j).tmod 2 == 1)] 4))) (fun r e => by cases e)
      clear hou hov
      go_wp2_with (first | (at_builtin; refine wpList_append_own_at _ rfl _ _ 61 rfl wq.heap.size 4 i0 (.bool false) 1 1 Try.underlying61 hi0 hz0 hz1 hz2 rfl (by decide) _ _ _ rfl hou1 ⟨wr.heap.size, 0, none⟩ 1 1 [.bool ((leads / 2 ^ j).tmod 2 == 1)] rfl rfl (cell_one_new _ _ _) (by simp [Value.oneCell']) (by unfold maxLen; omega) (by omega) (by simp; omega) ?_; intro v1 w5 hown1 hg1 hn1 hl1; have hb5 : Below wq.heap.size wr w5 := (((Below.refl wq.heap.size wr).alloc (by omega) _).grown hg1 (by simp; omega) (fun r e => (hou1.lt r e).1)); have hov2 := hsu.kept hov1 hg1; have hs2 := hsu.pushed hov1 hl1; have hz5 : wq.heap.size ≤ w5.heap.size := Nat.le_trans hsz hb5.size; have hov3 := book_owns hov2 (grown_none (below_alloc w5 (.cells #[.bool true] 4))) (fun r e => by cases e); have hou3 := book_owns hown1 (grown_none (below_alloc w5 (.cells #[.bool true] 4))) (fun r e => by cases e); clear hg1 hn1 hl1 hou1 hov1 hov2 hown1) | (at_builtin; refine wpList_append_own_at _ rfl _ _ 61 rfl wq.heap.size 4 i0 (.bool false) 1 1 Try.underlying61 hi0 hz0 hz1 hz2 rfl (by decide) _ _ _ rfl hov3 ⟨w5.heap.size, 0, none⟩ 1 1 [.bool true] rfl rfl (cell_one_new _ _ _) (by simp [Value.oneCell']) (by unfold maxLen; omega) (by omega) (by simp; omega) ?_; intro v2 w6 hown2 hg2 hn2 hl2; have hb6 : Below wq.heap.size w5 w6 := (((Below.refl wq.heap.size w5).alloc (by omega) _).grown hg2 (by simp; omega) (fun r e => (hov3.lt r e).1)); have hou4 := hs2.symm.kept hou3 hg2; have hs3 := (hs2.symm.pushed hou3 hl2).symm))
      go_roundw
      case rel => exact ⟨j + 1, by omega, by go_num, by rw [bitsM_succ, List.map_append]; exact hou4, by rw [truesM_succ, List.map_append]; exact hown2, hs3, hB.trans (hb5.trans hb6)⟩
      case measure => simp [intOf]; omega
    · have hjn : j = n := by omega
      subst hjn
      have hLA := bools_of_owns (l := bitsM leads j) (a := ua) (cap := uc) (W := wr) (by rw [bitsM_length]; exact hou)
      have hLB := bools_of_owns (l := truesM j) (a := va) (cap := vc) (W := wr) (by rw [truesM_length]; exact hov)
      replace hb := hb.trans (hB.mono hb.size)
      replace hSx := hSx.grown hB
      replace hTx := hTx.grown hB
      replace hPl := hPl.grown hB
      have hC1 := hCV (bitsM leads j)
      have hC2 := hCV (truesM j)
      obtain ⟨A, hA0, hA1, hA2⟩ := once_all (bitsM leads j) HMT.out
      have hX0 : leftsIn 0 (countM (truesM j) ms ms.length) = some j := lefts_all (fun i hi => by
        unfold truesM
        rw [List.getD_eq_getElem?_getD, List.getElem?_replicate, if_pos hi]
        rfl) HMT.out
      have hln1 := bitsM_length leads j
      have hln2 := truesM_length j
      rw [HN.out] at hA1 hA2
      generalize countM (bitsM leads j) ms ms.length = C at hC1 hA1 hA2
      generalize countM (truesM j) ms ms.length = X at hC2 hX0
      generalize bitsM leads j = ld at hC1 hln1 hLA
      generalize truesM j = ll at hC2 hln2 hLB
      have HLD := hid hln1
      have HLE := hid hln2
      have HX0 := hid hX0
      have HA0 := hid hA0
      have HA2 := hid hA2
      obtain ⟨CL, hCL⟩ : ∃ q, C.length = q := ⟨_, rfl⟩
      obtain ⟨XL, hXL⟩ : ∃ q, X.length = q := ⟨_, rfl⟩
      rw [hCL] at hA1
      simp only [hCL] at hC1
      simp only [hXL] at hC2
      have HA1 := hid hA1
      have HCL := hid hCL
      have HXL := hid hXL
      clear hou hov hsu hB hsz hCV hA0 hA1 hA2 hX0 hln1 hln2 hCL hXL
      go_upto_region 13 with (first | (go_at_call_has 20 la; refine (hTL _ hSx).mono ?_; rintro e wy ⟨a, ac, rfl, hA, hAc, hq⟩; (try replace hP1 := hP1.grown hq); replace hSx := hSx.grown hq; replace hTx := hTx.grown hq; replace hPl := hPl.grown hq; replace hLA := hLA.grown hq; replace hLB := hLB.grown hq; replace hb := below_then hb hq; clear hq) | (go_at_call_has 20 ra; refine (hTR _ hTx).mono ?_; rintro e wy ⟨b, bc, rfl, hB, hBc, hq⟩; (try replace hP1 := hP1.grown hq); replace hA := hA.grown hq; replace hSx := hSx.grown hq; replace hTx := hTx.grown hq; replace hPl := hPl.grown hq; replace hLA := hLA.grown hq; replace hLB := hLB.grown hq; replace hb := below_then hb hq; clear hq) | (go_at_call 24; refine (hST _ hPl).mono ?_; rintro e wy ⟨ss, ssc, rfl, hPs, hq⟩; (try replace hP1 := hP1.grown hq); replace hA := hA.grown hq; replace hB := hB.grown hq; replace hSx := hSx.grown hq; replace hTx := hTx.grown hq; replace hPl := hPl.grown hq; replace hLA := hLA.grown hq; replace hLB := hLB.grown hq; replace hb := below_then hb hq; clear hq) | (go_at_call_has 36 ua; refine (hC1 a ac b bc ss ssc _ _ _ HLD.out hA hB hAc hBc hPs hLA).mono ?_; rintro e wy ⟨p1, c1, rfl, hP1, hl1, hq⟩; clear hA hB hPs; replace hSx := hSx.grown hq; replace hTx := hTx.grown hq; replace hPl := hPl.grown hq; replace hLA := hLA.grown hq; replace hLB := hLB.grown hq; replace hb := below_then hb hq; clear hq) | (go_at_call_has 36 va; refine (hC2 a ac b bc ss ssc _ _ _ HLE.out hA hB hAc hBc hPs hLB).mono ?_; rintro e wy ⟨p2, c2, rfl, hP2, hl2, hq⟩; clear hA hB hPs; replace hP1 := hP1.grown hq; replace hSx := hSx.grown hq; replace hTx := hTx.grown hq; replace hPl := hPl.grown hq; replace hLA := hLA.grown hq; replace hLB := hLB.grown hq; replace hb := below_then hb hq; clear hq))
      clear hC1 hC2 hTL hTR hST hLA hLB hSx hTx
      have g68 := Try.guard68
      go_wp2_with fail
      go_loopw [17, 18, 19, 20, 21, 22, 23, 24] (fun iv kv av qv _ _ _ _ wr => ∃ (q a c p : Nat), q ≤ N ∧ qv = .int .i64 q ∧ iv = .int .i64 a ∧ kv = .int .i64 c ∧ av = .int .i64 p ∧ Hid (sumL (l.take q) = (a : Int)) ∧ Hid (sumR (l.take q) = (c : Int)) ∧ Hid (p = A q) ∧ p ≤ CL ∧ a ≤ 22 ∧ c ≤ 22 ∧ Below wy.heap.size wy wr) (fun _ _ _ qv _ _ _ _ _ => N - (intOf qv).toNat)
      case atStart => exact ⟨0, 0, 0, 0, Nat.zero_le _, rfl, rfl, rfl, rfl, hid rfl, hid rfl, hid HA0.out.symm, Nat.zero_le _, by omega, by omega, Below.refl _ _⟩
      case round =>
        obtain ⟨q, a, c, p, hq, rfl, rfl, rfl, rfl, HA, HC, HP, hp, ha, hc, hBr⟩ := hrel
        by_cases hlt : q < N
        · have hlt' : (q : Int) < N := by omega
          have hq0 : (0 : Int) ≤ (q : Int) := by omega
          obtain ⟨a', c', x, y, mn, sd, fr, o1, o2, o3, o4, o5, o6, o7, o8, o9, o10, o11, o12, o13, o14, o15⟩ := HA2.out q hlt
          obtain rfl : a' = a := by have := HA.out; omega
          obtain rfl : c' = c := by have := HC.out; omega
          rw [HCL.out] at o12
          rw [← HP.out] at o11 o12 o13
          obtain ⟨b1, x1, es, s1, s2⟩ := (hPl.grown hBr) q (by rw [HN.out]; exact hlt)
          rw [o3] at s1
          rw [o4] at s2
          obtain ⟨b2, x2, ep, t1, -⟩ := (hP1.grown hBr) p (by rw [HCL.out]; omega)
          have hfirst := o11 0 o9
          rw [Nat.add_zero] at hfirst
          rw [hfirst] at t1
          simp only at t1
          have HX : Hid (∀ t, t < mn → ∃ u v, p1 = some ⟨u, v, none⟩ ∧ ∀ W, Below wy.heap.size wy W → W.cell? ⟨u, v + (p + t) * 2, none⟩ = some (.int .u8 (sd : Int)) ∧ W.cell? ⟨u, v + (p + t) * 2 + 1, none⟩ = some (.int .i64 ((fr + t : Nat) : Int))) := hid (fun t ht => by
            obtain ⟨u, v, e, h1, h2⟩ := hP1 (p + t) (by rw [HCL.out]; omega)
            rw [o11 t ht] at h1 h2
            exact ⟨u, v, e, fun W hW => ⟨cell_grown hW h1, cell_grown hW h2⟩⟩)
          clear o11 hfirst o1 o2 o3 o4
          have HPQ : Hid (p + mn = A (q + 1)) := hid o13.symm
          have H14 := hid o14
          have H15 := hid o15
          clear o13 o14 o15
          have g17 : ¬ (CL : Int) ≤ (p : Int) := by omega
          have hp0 : (0 : Int) ≤ (p : Int) := by omega
          have hpc : (p : Int) < (CL : Int) := by omega
          have gs := lt_of_cell s1
          have gt := lt_of_cell t1
          have esS := hid es
          have epS := hid ep
          subst es
          subst ep
          have wA : IntKind.i64.wrap ((a' : Int) + x) = ((a' + x : Nat) : Int) := by rw [IntKind.wrap_i64]; omega
          have wC : IntKind.i64.wrap ((c' : Int) + y) = ((c' + y : Nat) : Int) := by rw [IntKind.wrap_i64]; omega
          have wP : IntKind.i64.wrap ((p : Int) + mn) = ((p + mn : Nat) : Int) := by rw [IntKind.wrap_i64]; omega
          have gm : ((mn : Int) == 0) = false := by simp; omega
          have gl : ¬ (CL : Int) < ((p + mn : Nat) : Int) := by omega
          have gl' : ¬ CL < p + mn := by omega
          rcases o10 with ⟨rfl, e2, e3⟩ | ⟨rfl, e2, e3⟩
          · rw [e3] at o9 o12 HPQ wP gm gl gl'
            rw [e2, e3] at HX
            clear e2 e3 esS epS
            obtain ⟨pe, hpe⟩ : ∃ z, p + x = z := ⟨_, rfl⟩
            rw [hpe] at wP gl gl' HPQ o12
            have HPE := hid hpe
            clear hpe
            go_wp2_with fail
            have oa : ∀ z : Over wr, z.w.cell? ⟨b2, x2 + p * 2, none⟩ = some (.int .u8 (0 : Int)) := fun z => z.cell t1
            have ob : ∀ z : Over wr, z.w.cell? ⟨b1, x1 + q * 2, none⟩ = some (.int .i64 (x : Int)) := fun z => z.cell s1
            refine wp_region_over wr (Below.refl _ _) (by kernel_rfl) (by kernel_rfl) ?_
            repeat (go_big_quiet_step (fail))
            refine wpQuiet_nil ?_
            intro wz hw'
            have hbz := over_below hw'
            clear hw' oa ob
            replace s1 := cell_grown hbz s1
            replace s2 := cell_grown hbz s2
            have gs := lt_of_cell s1
            replace hBr := below_then hBr hbz
            clear hbz t1 gt
            go_wp2_with fail
            go_loopw [24] (fun tv wx => ∃ t : Nat, t ≤ x ∧ tv = .int .i64 t ∧ wx = wz) (fun tv _ => x - (intOf tv).toNat)
            case atStart => exact ⟨0, Nat.zero_le _, rfl, rfl⟩
            case round =>
              obtain ⟨t, ht, rfl, rfl⟩ := hrel
              by_cases hlx : t < x
              · have hlx' : (t : Int) < (x : Int) := by omega
                obtain ⟨u, v, eu, hcell⟩ := HX.out t hlx
                simp only [Option.some.injEq, Addr.mk.injEq, and_true] at eu
                obtain ⟨rfl, rfl⟩ := eu
                obtain ⟨c0, c1⟩ := hcell _ hBr
                obtain ⟨e, he⟩ : ∃ e, p + t = e := ⟨_, rfl⟩
                obtain ⟨f, hf⟩ : ∃ f, a' + t = f := ⟨_, rfl⟩
                rw [he] at c0 c1
                rw [hf] at c1
                have hpb := HPE.out
                have w1 : IntKind.i64.wrap ((p : Int) + (t : Int)) = (e : Int) := by rw [IntKind.wrap_i64]; omega
                have w2 : IntKind.i64.wrap ((a' : Int) + (t : Int)) = (f : Int) := by rw [IntKind.wrap_i64]; omega
                have e0 : (0 : Int) ≤ (e : Int) := by omega
                have e1 : (e : Int) < (CL : Int) := by omega
                have hne : ∀ W : World, (binOp .neq 68 (.agg #[.int .u8 0, .int .i64 (f : Int)]) (.agg #[.int .u8 0, .int .i64 (f : Int)])).run Try.prog W = .ok (.bool false) W := fun W => by rw [piece68_neq]; simp
                have gu := lt_of_cell c0
                have ht' : t + 1 ≤ x := by omega
                clear he hf hpb hcell
                go_wp2_with fail
                go_roundw
                case rel => exact ⟨t + 1, ht', by go_num, by trivial⟩
                case measure => simp [intOf]; omega
              · have htc : t = x := by omega
                subst htc
                go_wp2_with fail
                have oa : ∀ z : Over wr, z.w.cell? ⟨b1, x1 + q * 2, none⟩ = some (.int .i64 (t : Int)) := fun z => z.cell s1
                have ob : ∀ z : Over wr, z.w.cell? ⟨b1, x1 + q * 2 + 1, none⟩ = some (.int .i64 (y : Int)) := fun z => z.cell s2
                refine wp_region_over wr (Below.refl _ _) (by kernel_rfl) (by kernel_rfl) ?_
                repeat (go_big_quiet_step (fail))
                refine wpQuiet_nil ?_
                intro wt hw'
                have hbt := over_below hw'
                clear hw' oa ob
                go_wp2_with fail
                go_roundw
                case rel => exact ⟨q + 1, a' + t, c' + y, pe, by omega, by go_num, rfl, rfl, rfl, H14, H15, HPQ, by omega, by omega, by omega, below_then hBr hbt⟩
                case measure => simp [intOf]; omega
          · rw [e3] at o9 o12 HPQ wP gm gl gl'
            rw [e2, e3] at HX
            clear e2 e3 esS epS
            obtain ⟨pe, hpe⟩ : ∃ z, p + y = z := ⟨_, rfl⟩
            rw [hpe] at wP gl gl' HPQ o12
            have HPE := hid hpe
            clear hpe
            go_wp2_with fail
            have oa : ∀ z : Over wr, z.w.cell? ⟨b2, x2 + p * 2, none⟩ = some (.int .u8 (1 : Int)) := fun z => z.cell t1
            have ob : ∀ z : Over wr, z.w.cell? ⟨b1, x1 + q * 2, none⟩ = some (.int .i64 (x : Int)) := fun z => z.cell s1
            refine wp_region_over wr (Below.refl _ _) (by kernel_rfl) (by kernel_rfl) ?_
            repeat (go_big_quiet_step (fail))
            refine wpQuiet_nil ?_
            intro wz hw'
            have hbz := over_below hw'
            clear hw' oa ob
            replace s1 := cell_grown hbz s1
            replace s2 := cell_grown hbz s2
            have gs := lt_of_cell s1
            replace hBr := below_then hBr hbz
            clear hbz t1 gt
            go_wp2_with fail
            have ob : ∀ z : Over wz, z.w.cell? ⟨b1, x1 + q * 2 + 1, none⟩ = some (.int .i64 (y : Int)) := fun z => z.cell s2
            refine wp_region_over wz (Below.refl _ _) (by kernel_rfl) (by kernel_rfl) ?_
            repeat (go_big_quiet_step (fail))
            refine wpQuiet_nil ?_
            intro wv hw'
            have hbz := over_below hw'
            clear hw' ob
            replace s1 := cell_grown hbz s1
            replace s2 := cell_grown hbz s2
            have gs := lt_of_cell s1
            replace hBr := below_then hBr hbz
            clear hbz
            go_wp2_with fail
            go_loopw [24] (fun tv wx => ∃ t : Nat, t ≤ y ∧ tv = .int .i64 t ∧ wx = wv) (fun tv _ => y - (intOf tv).toNat)
            case atStart => exact ⟨0, Nat.zero_le _, rfl, rfl⟩
            case round =>
              obtain ⟨t, ht, rfl, rfl⟩ := hrel
              by_cases hlx : t < y
              · have hlx' : (t : Int) < (y : Int) := by omega
                obtain ⟨u, v, eu, hcell⟩ := HX.out t hlx
                simp only [Option.some.injEq, Addr.mk.injEq, and_true] at eu
                obtain ⟨rfl, rfl⟩ := eu
                obtain ⟨c0, c1⟩ := hcell _ hBr
                obtain ⟨e, he⟩ : ∃ e, p + t = e := ⟨_, rfl⟩
                obtain ⟨f, hf⟩ : ∃ f, c' + t = f := ⟨_, rfl⟩
                rw [he] at c0 c1
                rw [hf] at c1
                have hpb := HPE.out
                have w1 : IntKind.i64.wrap ((p : Int) + (t : Int)) = (e : Int) := by rw [IntKind.wrap_i64]; omega
                have w2 : IntKind.i64.wrap ((c' : Int) + (t : Int)) = (f : Int) := by rw [IntKind.wrap_i64]; omega
                have e0 : (0 : Int) ≤ (e : Int) := by omega
                have e1 : (e : Int) < (CL : Int) := by omega
                have hne : ∀ W : World, (binOp .neq 68 (.agg #[.int .u8 1, .int .i64 (f : Int)]) (.agg #[.int .u8 1, .int .i64 (f : Int)])).run Try.prog W = .ok (.bool false) W := fun W => by rw [piece68_neq]; simp
                have gu := lt_of_cell c0
                have ht' : t + 1 ≤ y := by omega
                clear he hf hpb hcell
                go_wp2_with fail
                go_roundw
                case rel => exact ⟨t + 1, ht', by go_num, by trivial⟩
                case measure => simp [intOf]; omega
              · have htc : t = y := by omega
                subst htc
                go_wp2_with fail
                have oa : ∀ z : Over wr, z.w.cell? ⟨b1, x1 + q * 2, none⟩ = some (.int .i64 (x : Int)) := fun z => z.cell s1
                have ob : ∀ z : Over wr, z.w.cell? ⟨b1, x1 + q * 2 + 1, none⟩ = some (.int .i64 (t : Int)) := fun z => z.cell s2
                refine wp_region_over wr (Below.refl _ _) (by kernel_rfl) (by kernel_rfl) ?_
                repeat (go_big_quiet_step (fail))
                refine wpQuiet_nil ?_
                intro wt hw'
                have hbt := over_below hw'
                clear hw' oa ob
                go_wp2_with fail
                go_roundw
                case rel => exact ⟨q + 1, a' + x, c' + t, pe, by omega, by go_num, rfl, rfl, rfl, H14, H15, HPQ, by omega, by omega, by omega, below_then hBr hbt⟩
                case measure => simp [intOf]; omega
        · have hqn : q = N := by omega
          subst hqn
          replace hb := below_then hb hBr
          have hpc : p = CL := by rw [HP.out, HA1.out]
          subst hpc
          have hP2r := hP2.grown hBr
          clear hP1 hP2 hPl hBr HA HC HP HA0 HA1 HA2 HCL
          go_wp2_with fail
          go_loopw [25, 26] (fun nv mv wx => ∃ z t : Nat, z ≤ t ∧ t ≤ XL ∧ nv = .int .i64 z ∧ mv = .int .i64 t ∧ Hid (leftsIn z (X.drop t) = some j) ∧ wx = wr) (fun _ mv _ => XL - (intOf mv).toNat)
          case atStart => exact ⟨0, 0, Nat.le_refl _, Nat.zero_le _, rfl, rfl, HX0, rfl⟩
          case round =>
            obtain ⟨z, t, hzt, htx, rfl, rfl, HD, rfl⟩ := hrel
            by_cases hlx : t < XL
            · have hlx' : (t : Int) < (XL : Int) := by omega
              obtain ⟨b3, x3, e3, c0, c1⟩ := hP2r t (by rw [HXL.out]; exact hlx)
              subst e3
              obtain ⟨hs0, hs1⟩ := lefts_step (by rw [HXL.out]; exact hlx) HD.out
              generalize (X.getD t (0, 0)).1 = u at c0 hs0 hs1
              generalize (X.getD t (0, 0)).2 = v at c1 hs0
              by_cases hu : u = 0
              · obtain ⟨hv, HD2⟩ := hs0 hu
                subst hu
                rw [hv] at c1
                have HD3 := hid HD2
                have gn : ((z : Int) != (z : Int)) = false := by simp
                clear hs0 hs1 hv HD2
                go_wp2_with fail
                go_roundw
                case rel => exact ⟨z + 1, t + 1, by omega, by omega, by go_num, by go_num, HD3, by trivial⟩
                case measure => simp [intOf]; omega
              · have HD3 := hid (hs1 hu)
                have gu : (u == 0) = false := by simpa using hu
                clear hs0 hs1 hu
                go_wp2_with fail
                go_roundw
                case rel => exact ⟨z, t + 1, by omega, by omega, rfl, by go_num, HD3, by trivial⟩
                case measure => simp [intOf]; omega
            · have htx2 : t = XL := by omega
              subst htx2
              have hzj : z = j := by
                have h := HD.out
                rw [List.drop_of_length_le (by rw [HXL.out]; omega)] at h
                simpa [leftsIn] using h
              subst hzj
              clear hP2r HD HXL HX0
              go_wp2_with (go_at_call 18; refine (hwk _).mono ?_; rintro e wq' ⟨rfl, hq⟩; replace hb := below_then hb hq; clear hq)
              go_ret
              exact ⟨rfl, hb⟩

end Go.Proofs.Ytohahlnhbppnhaa
