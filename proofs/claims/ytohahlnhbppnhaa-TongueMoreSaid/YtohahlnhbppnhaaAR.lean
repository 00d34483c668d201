/- Tongue, the laws: one sentence more at the end of a text. -/
import Derived.Test.YtohahlnhbppnhaaAQ
import Derived.Test.YtohahlnhbppnhaaAL
import Derived.Test.YtohahlnhbppnhaaAJ
import Derived.Deep.CutRange
namespace Go.Proofs.Ytohahlnhbppnhaa
open Go.RowKit
set_option linter.unusedSimpArgs false
set_option linter.unusedVariables false

theorem cells_one {w : World} {x : Sen} {ma : Option Addr} {k kc : Nat} (hk : x.marks.length = k) (hI : IntsAt w ma x.marks) : CellsOf w [x] [.slice ma k kc, .int .i64 x.size] := by
  refine ⟨rfl, fun i hi => ?_⟩
  have hi0 : i = 0 := by simp only [List.length_cons, List.length_nil] at hi; omega
  subst hi0
  exact ⟨ma, kc, by simp [hk], by simp, by simpa using hI⟩

theorem news_kept {X w1 : World} {g b : Nat} {us : List Value} (hg : X.grownBy w1 (some g)) (hb : b < X.heap.size) (hne : b ≠ g) (h : ∀ j u, us[j]? = some u → X.cell? ((⟨b, 0, none⟩ : Addr).add j) = some u) :
    ∀ j u, us[j]? = some u → w1.cell? ((⟨b, 0, none⟩ : Addr).add j) = some u := by
  intro j u hj
  have hadd : (⟨b, 0, none⟩ : Addr).add j = ⟨b, 0 + j, none⟩ := by unfold Addr.add; split <;> simp_all
  have := h j u hj
  rw [hadd] at this ⊢
  exact (World.cell?_of_block (w := X) (a := ⟨_, _, none⟩) (hg.block _ hb (by simp [hne]))).trans this

theorem cell_grown' {w w' : World} (h : Below w.heap.size w w') {b j : Nat} {v : Value} (hc : w.cell? ((⟨b, 0, none⟩ : Addr).add j) = some v) : w'.cell? ((⟨b, 0, none⟩ : Addr).add j) = some v := by
  rw [add_plain] at hc ⊢
  exact cell_grown h hc

theorem more_le {L R : List Sen} {x : Sen} {k : Nat} (hk : x.marks.length = k) : restM (L ++ [x]) R 0 0 ≤ restM L R 0 0 + 3 + 2 * k := by
  have h1 := restM_more L R x
  have h2 := price_one x
  omega

set_option maxRecDepth 100000 in
set_option maxHeartbeats 4000000 in
theorem more_any (L R : List Sen) (x : Sen) (n m nc mc k kc : Nat) (la ra ma : Option Addr) (w : World) (hL : L.length = n) (hR : R.length = m) (hk : x.marks.length = k) (hn : n * 32 ≤ 140737488351232) (hm : m ≤ 9223372036854775807) (hkk : k ≤ 9223372036854775807) (hS : TextAt w la L) (hT : TextAt w ra R) (hI : IntsAt w ma x.marks) :
    Calls Try.prog 13 #[.slice la n nc, .slice ra m mc, .agg #[.slice ma k kc, .int .i64 x.size]] w fun e w' => e = .returned (.bool true) ∧ Below w.heap.size w w' := by
  obtain ⟨i0, hi0, hz0, hz1, hz2⟩ := info_parts Try.info103
  have hwk := fun W => wakes_any W
  obtain ⟨W0, hW0⟩ : ∃ X, X = w.alloc (.cells #[.slice ma k kc, .int .i64 x.size] 103) := ⟨_, rfl⟩
  have hB0 : Below w.heap.size w W0 := by rw [hW0]; exact below_alloc _ _
  have p0' : W0.cell? ⟨w.heap.size, 0, none⟩ = some (.slice ma k kc) := by rw [hW0]; simp [go_sem]
  have p1' : W0.cell? ⟨w.heap.size, 1, none⟩ = some (.int .i64 x.size) := by rw [hW0]; simp [go_sem]
  have hS0 := hS.grown hB0
  have hT0 := hT.grown hB0
  have hI0 := hI.grown hB0
  have hlen : (L ++ [x]).length = n + 1 := by rw [List.length_append, hL]; rfl
  have HLEN := hid hlen
  have HLL := hid hL
  have HRR := hid hR
  have HKK := hid hk
  obtain ⟨z, hzz⟩ : ∃ z, x.size = z := ⟨_, rfl⟩
  have hc1 : CellsOf W0 [x] [.slice ma k kc, .int .i64 z] := by rw [← hzz]; exact cells_one hk hI0
  simp only [hzz] at hW0 p1' ⊢
  have hBd : Below W0.heap.size W0 W0.drew := (Below.refl _ _).drew
  have sD : W0.drew.heap.size = W0.heap.size := rfl
  have oA : (W0.drew.alloc (.cells #[] 103)).ownsRow W0.heap.size 103 2 (.slice (some ⟨W0.drew.heap.size, 0, none⟩) 0 0) 0 [] := World.ownsRow_made (base := W0.heap.size) (e := 103) (size := 2) W0.drew #[] 0 (by omega) (Nat.zero_le _) rfl
  have bA : Below W0.heap.size W0 (W0.drew.alloc (.cells #[] 103)) := hBd.alloc hBd.size _
  have oB : ((W0.drew.alloc (.cells #[] 103)).alloc (.cells #[.slice ma k kc, .int .i64 z] 103)).ownsRow W0.heap.size 103 2 (.slice (some ⟨W0.drew.heap.size, 0, none⟩) 0 0) 0 [] := book_owns oA (grown_none (below_alloc _ _)) (fun r e => by cases e)
  have bB : Below W0.heap.size W0 ((W0.drew.alloc (.cells #[] 103)).alloc (.cells #[.slice ma k kc, .int .i64 z] 103)) := bA.alloc bA.size _
  have bC0 : Below W0.heap.size W0 (W0.drew.alloc (.cells #[.slice ma k kc, .int .i64 z] 103)) := hBd.alloc hBd.size _
  have oC : ((W0.drew.alloc (.cells #[.slice ma k kc, .int .i64 z] 103)).alloc (.cells #[] 103)).ownsRow W0.heap.size 103 2 (.slice (some ⟨W0.drew.heap.size + 1, 0, none⟩) 0 0) 0 [] := by
    have h := World.ownsRow_made (base := W0.heap.size) (e := 103) (size := 2) (W0.drew.alloc (.cells #[.slice ma k kc, .int .i64 z] 103)) #[] 0 (bC0.size) (Nat.zero_le _) rfl
    simpa using h
  have bC : Below W0.heap.size W0 ((W0.drew.alloc (.cells #[.slice ma k kc, .int .i64 z] 103)).alloc (.cells #[] 103)) := bC0.alloc bC0.size _
  have nB : ∀ w1 : World, ((W0.drew.alloc (.cells #[] 103)).alloc (.cells #[.slice ma k kc, .int .i64 z] 103)).grownBy w1 (some W0.drew.heap.size) → ∀ j u, [Value.slice ma k kc, Value.int .i64 z][j]? = some u → w1.cell? ((⟨W0.drew.heap.size + 1, 0, none⟩ : Addr).add j) = some u := fun w1 hg => news_kept hg (by simp) (by omega) (fun j u hj => by
    have h := pair_new (W0.drew.alloc (.cells #[] 103)) (.slice ma k kc) (.int .i64 z) 103 j u hj
    simpa using h)
  have nC : ∀ w1 : World, ((W0.drew.alloc (.cells #[.slice ma k kc, .int .i64 z] 103)).alloc (.cells #[] 103)).grownBy w1 (some (W0.drew.heap.size + 1)) → ∀ j u, [Value.slice ma k kc, Value.int .i64 z][j]? = some u → w1.cell? ((⟨W0.drew.heap.size, 0, none⟩ : Addr).add j) = some u := fun w1 hg => news_kept hg (by simp; omega) (by omega) (fun j u hj => cell_grown' (below_alloc _ _) (pair_new W0.drew (.slice ma k kc) (.int .i64 z) 103 j u hj))
  have dA : Below W0.heap.size W0 ((W0.alloc (.cells #[] 103)).drew) := (below_alloc W0 (.cells #[] 103)).drew
  have dB : Below W0.heap.size W0 (((W0.alloc (.cells #[] 103)).alloc (.cells #[.slice ma k kc, .int .i64 z] 103)).drew) := ((below_alloc W0 (.cells #[] 103)).alloc (by simp) _).drew
  have dC0 : Below W0.heap.size W0 ((W0.alloc (.cells #[.slice ma k kc, .int .i64 z] 103)).drew) := (below_alloc W0 _).drew
  have dC : Below W0.heap.size W0 (((W0.alloc (.cells #[.slice ma k kc, .int .i64 z] 103)).alloc (.cells #[] 103)).drew) := ((below_alloc W0 (.cells #[.slice ma k kc, .int .i64 z] 103)).alloc (by simp) _).drew
  have b1 := hBd
  have b2 := hBd
  have b3 := hBd
  clear hS hT hI hlen hL hR hk
  go_enter Try.func13, Try.ntmps13
  go_upto_region 1 with fail
  rw [← hW0]
  clear hW0
  go_cut [7] from 14 to 19 (fun v wx => ∃ aL cL, v = .slice aL (n + 1) cL ∧ TextAt wx aL (L ++ [x]) ∧ Below W0.heap.size W0 wx)
  case first =>
    go_region_held3 (fun w' : World => w'.cell? ⟨w.heap.size, 0, none⟩ = some (.slice ma k kc) ∧ w'.cell? ⟨w.heap.size, 1, none⟩ = some (.int .i64 z)) (first | with_reducible exact ⟨cell_grown hBd p0', cell_grown hBd p1'⟩ | with_reducible exact ⟨cell_grown dA p0', cell_grown dA p1'⟩ | with_reducible exact ⟨cell_grown dB p0', cell_grown dB p1'⟩ | with_reducible exact ⟨cell_grown dC0 p0', cell_grown dC0 p1'⟩ | with_reducible exact ⟨cell_grown dC p0', cell_grown dC p1'⟩ | with_reducible exact ⟨cell_grown b1 p0', cell_grown b1 p1'⟩ | with_reducible exact ⟨cell_grown b2 p0', cell_grown b2 p1'⟩ | with_reducible exact ⟨cell_grown b3 p0', cell_grown b3 p1'⟩) (first | (refine step_append_text (w0 := W0) rfl _ _ 22 rfl W0.heap.size 103 i0 Try.underlying22 hi0 hz0 hz1 hz2 _ 0 _ rfl oA la n nc L rfl HLL.out hS0 bA (by unfold maxLen; omega) (by omega) (bA).size ?_; intro v1 w1 us hown1 hg1 hat1 hus; have b1 : Below W0.heap.size W0 w1 := (bA).grown hg1 (bA).size (fun r e => ((oA).lt r e).1); have b2 : Below W0.heap.size W0 (w1.alloc (.cells #[.slice ma k kc, .int .i64 z] 103)) := b1.alloc b1.size _; have hown2 := book_owns hown1 (grown_none (below_alloc w1 (.cells #[.slice ma k kc, .int .i64 z] 103))) (fun r e => by cases e)) | (refine step_append_text (w0 := W0) rfl _ _ 22 rfl W0.heap.size 103 i0 Try.underlying22 hi0 hz0 hz1 hz2 _ 0 _ rfl oB la n nc L rfl HLL.out hS0 bB (by unfold maxLen; omega) (by omega) (bB).size ?_; intro v1 w1 us hown1 hg1 hat1 hus; have b1 : Below W0.heap.size W0 w1 := (bB).grown hg1 (bB).size (fun r e => ((oB).lt r e).1); have b2 := b1; have hnw := nB _ hg1) | (refine step_append_text (w0 := W0) rfl _ _ 22 rfl W0.heap.size 103 i0 Try.underlying22 hi0 hz0 hz1 hz2 _ 0 _ rfl oC la n nc L rfl HLL.out hS0 bC (by unfold maxLen; omega) (by omega) (bC).size ?_; intro v1 w1 us hown1 hg1 hat1 hus; have b1 : Below W0.heap.size W0 w1 := (bC).grown hg1 (bC).size (fun r e => ((oC).lt r e).1); have b2 := b1; have hnw := nC _ hg1) | (refine step_append_at' rfl _ _ 22 rfl W0.heap.size 103 i0 (.agg #[.slice none 0 0, .int .i64 0]) 2 32 Try.underlying22 hi0 hz0 hz1 hz2 rfl (by decide) _ (0 + n) _ rfl hown2 ⟨_, 0, none⟩ 1 1 [.slice ma k kc, .int .i64 z] rfl rfl (pair_new w1 _ _ 103) (by simp [Value.oneCell']) (by unfold maxLen; omega) (by omega) b2.size ?_; intro v2 w2 hown3 hg2 hat2; have b3 : Below W0.heap.size W0 w2 := b2.grown hg2 b2.size (fun r e => (hown2.lt r e).1)) | (refine step_append_at' rfl _ _ 22 rfl W0.heap.size 103 i0 (.agg #[.slice none 0 0, .int .i64 0]) 2 32 Try.underlying22 hi0 hz0 hz1 hz2 rfl (by decide) _ (0 + n) _ rfl hown1 ⟨_, 0, none⟩ 1 1 [.slice ma k kc, .int .i64 z] rfl rfl hnw (by simp [Value.oneCell']) (by unfold maxLen; omega) (by omega) b2.size ?_; intro v2 w2 hown3 hg2 hat2; have b3 : Below W0.heap.size W0 w2 := b2.grown hg2 b2.size (fun r e => (hown1.lt r e).1)))
    all_goals go_wp2_with fail
    all_goals go_meet
    all_goals
      have hcs := hus.append hc1
      rw [Nat.zero_add] at hown3
      rw [List.nil_append] at hown3
      obtain ⟨aL, cL, rfl⟩ := owns_shape hown3
      exact ⟨aL, cL, rfl, text_of_cells HLEN.out hown3 hcs b3, b3⟩
  case rest =>
    obtain ⟨aL, cL, rfl, hLx, hbx⟩ := hcut
    have hb : Below w.heap.size w wc := hB0.trans (hbx.mono hB0.size)
    have p0 := cell_grown hbx p0'
    have hSx := hS0.grown hbx
    have hTx := hT0.grown hbx
    have hr1 := fun W hS hT (hL : TextAt W aL (L ++ [x])) => ready_any L R n m nc mc la ra W HLL.out HRR.out (by omega) hm hS hT
    have hf2 := fun W (hS : TextAt W la L) hT hL => few_any (L ++ [x]) R (n + 1) m cL mc aL ra W HLEN.out HRR.out (by omega) hm hL hT
    have hr2 := fun W (hS : TextAt W la L) hT hL => ready_any (L ++ [x]) R (n + 1) m cL mc aL ra W HLEN.out HRR.out (by omega) hm hL hT
    clear hS0 hT0 hI0 p0' p1' oA oB oC bA bB bC bC0 dA dB dC dC0 b1 b2 b3 nB nC hBd hc1 hB0 hbx sD hi0 hz0 hz1 hz2 i0
    obtain ⟨r1, e1⟩ : ∃ r, readyM L R = r := ⟨_, rfl⟩
    rw [e1] at hr1
    cases r1
    · clear hf2 hr2 e1 HLEN HLL HRR HKK
      go_wp2_with (first | (go_at_call_has 48 la; refine (hr1 _ hSx hTx hLx).mono ?_; rintro e wq ⟨rfl, hq⟩; replace hSx := hSx.grown hq; replace hTx := hTx.grown hq; replace hLx := hLx.grown hq; replace p0 := cell_grown hq p0; replace hb := below_then hb hq; (try replace hA := hA.grown hq); (try replace hB := hB.grown hq); (try replace hC := hC.grown hq); clear hq) | (go_at_call 18; refine (hwk _).mono ?_; rintro e wq ⟨rfl, hq⟩; replace hb := below_then hb hq; clear hq))
      go_ret
      exact ⟨rfl, hb⟩
    obtain ⟨r2, e2⟩ : ∃ r, fewM (L ++ [x]) R = r := ⟨_, rfl⟩
    rw [e2] at hf2
    cases r2
    · clear hr2 e1 e2 HLEN HLL HRR HKK
      go_wp2_with (first | (go_at_call_has 48 la; refine (hr1 _ hSx hTx hLx).mono ?_; rintro e wq ⟨rfl, hq⟩; replace hSx := hSx.grown hq; replace hTx := hTx.grown hq; replace hLx := hLx.grown hq; replace p0 := cell_grown hq p0; replace hb := below_then hb hq; (try replace hA := hA.grown hq); (try replace hB := hB.grown hq); (try replace hC := hC.grown hq); clear hq) | (go_at_call 16; refine (hf2 _ hSx hTx hLx).mono ?_; rintro e wq ⟨rfl, rfl⟩) | (go_at_call 18; refine (hwk _).mono ?_; rintro e wq ⟨rfl, hq⟩; replace hb := below_then hb hq; clear hq))
      go_ret
      exact ⟨rfl, hb⟩
    obtain ⟨r3, e3⟩ : ∃ r, readyM (L ++ [x]) R = r := ⟨_, rfl⟩
    rw [e3] at hr2
    cases r3
    · clear e1 e2 e3 HLEN HLL HRR HKK
      go_wp2_with (first | (go_at_call_has 48 la; refine (hr1 _ hSx hTx hLx).mono ?_; rintro e wq ⟨rfl, hq⟩; replace hSx := hSx.grown hq; replace hTx := hTx.grown hq; replace hLx := hLx.grown hq; replace p0 := cell_grown hq p0; replace hb := below_then hb hq; (try replace hA := hA.grown hq); (try replace hB := hB.grown hq); (try replace hC := hC.grown hq); clear hq) | (go_at_call 16; refine (hf2 _ hSx hTx hLx).mono ?_; rintro e wq ⟨rfl, rfl⟩) | (go_at_call_has 48 aL; refine (hr2 _ hSx hTx hLx).mono ?_; rintro e wq ⟨rfl, hq⟩; replace hSx := hSx.grown hq; replace hTx := hTx.grown hq; replace hLx := hLx.grown hq; replace p0 := cell_grown hq p0; replace hb := below_then hb hq; (try replace hA := hA.grown hq); (try replace hB := hB.grown hq); (try replace hC := hC.grown hq); clear hq) | (go_at_call 18; refine (hwk _).mono ?_; rintro e wq ⟨rfl, hq⟩; replace hb := below_then hb hq; clear hq))
      go_ret
      exact ⟨rfl, hb⟩
    obtain ⟨k1, k2, k3, k4⟩ := few_parts e2
    have e1' := e1
    unfold readyM at e1' e3
    simp only [Bool.and_eq_true, decide_eq_true_eq] at e1' e3
    obtain ⟨k5, k6, k7, k8⟩ := few_parts e1'.1
    have hkb : k ≤ 15 := by
      have := k3 x (by simp)
      rw [HKK.out] at this
      exact this
    have hTL := fun W hS (hT : TextAt W ra R) (hL : TextAt W aL (L ++ [x])) => text_any L n nc la W HLL.out (by have := HLL.out; omega) (fun s hs => by have := k7 s hs; omega) hS
    have hTR := fun W (hS : TextAt W la L) hT (hL : TextAt W aL (L ++ [x])) => text_any R m mc ra W HRR.out (by have := HRR.out; omega) (fun s hs => by have := k8 s hs; omega) hT
    have hTX := fun W (hS : TextAt W la L) (hT : TextAt W ra R) hL => text_any (L ++ [x]) (n + 1) cL aL W HLEN.out (by have := HLEN.out; omega) (fun s hs => by have := k3 s hs; omega) hL
    have hM1 := fun a ac b bc W => match_right L R n m HLL.out HRR.out (fine_small ⟨k5, k7⟩) (fine_small ⟨k6, k8⟩) e1'.2 a b ac bc W
    have hM2 := fun c cc b bc W => match_right (L ++ [x]) R (n + 1) m HLEN.out HRR.out (fine_small ⟨k1, k3⟩) (fine_small ⟨k2, k4⟩) e3.2 c b cc bc W
    have hle := more_le (L := L) (R := R) HKK.out
    have hz1 := restM_bd L R (by omega) (by omega) 0 0
    generalize restM L R 0 0 = z1 at hM1 hle hz1
    generalize restM (L ++ [x]) R 0 0 = z2 at hM2 hle
    generalize (bestM L R 0 0).length = k9 at hM1
    generalize (bestM (L ++ [x]) R 0 0).length = k10 at hM2
    clear e1 e2 e3 e1' HLEN HLL HRR HKK k1 k2 k3 k4 k5 k6 k7 k8
    go_wp2_with (first | (go_at_call_has 48 la; refine (hr1 _ hSx hTx hLx).mono ?_; rintro e wq ⟨rfl, hq⟩; replace hSx := hSx.grown hq; replace hTx := hTx.grown hq; replace hLx := hLx.grown hq; replace p0 := cell_grown hq p0; replace hb := below_then hb hq; (try replace hA := hA.grown hq); (try replace hB := hB.grown hq); (try replace hC := hC.grown hq); clear hq) | (go_at_call 16; refine (hf2 _ hSx hTx hLx).mono ?_; rintro e wq ⟨rfl, rfl⟩) | (go_at_call_has 48 aL; refine (hr2 _ hSx hTx hLx).mono ?_; rintro e wq ⟨rfl, hq⟩; replace hSx := hSx.grown hq; replace hTx := hTx.grown hq; replace hLx := hLx.grown hq; replace p0 := cell_grown hq p0; replace hb := below_then hb hq; (try replace hA := hA.grown hq); (try replace hB := hB.grown hq); (try replace hC := hC.grown hq); clear hq) | (go_at_call_has 20 la; refine (hTL _ hSx hTx hLx).mono ?_; rintro e wq ⟨a, ac, rfl, hA, hAc, hq⟩; replace hSx := hSx.grown hq; replace hTx := hTx.grown hq; replace hLx := hLx.grown hq; replace p0 := cell_grown hq p0; replace hb := below_then hb hq; (try replace hB := hB.grown hq); (try replace hC := hC.grown hq); clear hq) | (go_at_call_has 20 ra; refine (hTR _ hSx hTx hLx).mono ?_; rintro e wq ⟨b, bc, rfl, hB, hBc, hq⟩; replace hSx := hSx.grown hq; replace hTx := hTx.grown hq; replace hLx := hLx.grown hq; replace p0 := cell_grown hq p0; replace hb := below_then hb hq; (try replace hA := hA.grown hq); (try replace hC := hC.grown hq); clear hq) | (go_at_call_has 20 aL; refine (hTX _ hSx hTx hLx).mono ?_; rintro e wq ⟨c, cc, rfl, hC, hCc, hq⟩; replace hSx := hSx.grown hq; replace hTx := hTx.grown hq; replace hLx := hLx.grown hq; replace p0 := cell_grown hq p0; replace hb := below_then hb hq; (try replace hA := hA.grown hq); (try replace hB := hB.grown hq); clear hq) | (go_at_call 19; first | (refine (hM1 a ac b bc _ hA hB hAc hBc).mono ?_; rintro e wq ⟨sa, sc, rfl, -, hq⟩; clear hA hB hM1; replace hSx := hSx.grown hq; replace hTx := hTx.grown hq; replace hLx := hLx.grown hq; replace p0 := cell_grown hq p0; replace hb := below_then hb hq; (try replace hA := hA.grown hq); (try replace hB := hB.grown hq); (try replace hC := hC.grown hq); clear hq) | (refine (hM2 c cc b bc _ hC hB hCc hBc).mono ?_; rintro e wq ⟨sa2, sc2, rfl, -, hq⟩; clear hC hB; replace hSx := hSx.grown hq; replace hTx := hTx.grown hq; replace hLx := hLx.grown hq; replace p0 := cell_grown hq p0; replace hb := below_then hb hq; (try replace hA := hA.grown hq); (try replace hB := hB.grown hq); (try replace hC := hC.grown hq); clear hq)) | (go_at_call 18; refine (hwk _).mono ?_; rintro e wq ⟨rfl, hq⟩; replace hb := below_then hb hq; clear hq))
    go_ret
    exact ⟨rfl, hb⟩

end Go.Proofs.Ytohahlnhbppnhaa
