/- Tongue, the reference: the cost of steps, which are differences, and their lines. -/
import Derived.Test.YtohahlnhbppnhaaBU
import Derived.Test.YtohahlnhbppnhaaBN
import Derived.Test.YtohahlnhbppnhaaAY
import Derived.Test.YtohahlnhbppnhaaAU
import Derived.Test.YtohahlnhbppnhaaW
namespace Go.Proofs.Ytohahlnhbppnhaa
open Go.RowKit
set_option linter.unusedSimpArgs false
set_option linter.unusedVariables false

/-- A text whose marks are as they have to be. -/
structure FineR (T : List Sen) : Prop where
  ok : MarksOk T
  once : EachOnce T
  few : ∀ s ∈ T, s.marks.length ≤ 1000

theorem FineR.part {T : List Sen} (h : FineR T) (l k : Nat) : FineR ((T.drop l).take k) := ⟨h.ok.part l k, h.once.part l k, fun s hs => h.few s (List.mem_of_mem_drop (List.mem_of_mem_take hs))⟩

theorem fineR_of {T : List Sen} (hl : limT T = true) (hv : valT T = true) : FineR T := by
  have h := fine_of T hl hv
  exact ⟨h.1.2.2, once_of hv, fun s hs => by have := (h.2.2 s hs).1; omega⟩

/-- What is known of one step of a match. -/
def StepAt (l : List (Int × Int)) (ms : List (Nat × Nat × Nat × Nat)) (nl nr q : Nat) : Prop :=
  ∃ a c X Y : Nat, ms.getD q default = (a, c, X, Y) ∧ sumL (l.take q) = (a : Int) ∧ sumR (l.take q) = (c : Int) ∧ (l.getD q (0, 0)).1 = (X : Int) ∧ (l.getD q (0, 0)).2 = (Y : Int) ∧ X ≤ 2 ∧ Y ≤ 2 ∧ a + X ≤ nl ∧ c + Y ≤ nr ∧ (X, Y) ∈ kinds ∧
    sumL (l.take (q + 1)) = ((a + X : Nat) : Int) ∧ sumR (l.take (q + 1)) = ((c + Y : Nat) : Int)

theorem step_all {nl nr : Nat} {l : List (Int × Int)} {ms : List (Nat × Nat × Nat × Nat)} (h : matchM nl nr l = some ms) (q : Nat) (hq : q < l.length) : StepAt l ms nl nr q := by
  have hfit := match_fits h
  obtain ⟨h1, h2, h3, h4, h5⟩ := go_entries nl nr l 0 0 ms nl nr (match_parts h) q hq
  have hk := (kinds_of_go nl nr l 0 0 ms nl nr (match_parts h)).1
  have hk2 := List.all_eq_true.1 hk (l.getD q (0, 0)) (by
    rw [List.getD_eq_getElem?_getD, List.getElem?_eq_getElem hq]
    exact List.getElem_mem _)
  obtain ⟨at_, h5', hat⟩ := kind_at hk2
  have hkm := kinds_mem at_ h5'
  rw [hat] at hkm
  have hmem : ms.getD q default ∈ ms := by
    rw [List.getD_eq_getElem?_getD, List.getElem?_eq_getElem (by rw [hfit.1]; exact hq)]
    exact List.getElem_mem _
  have hf := hfit.2 _ hmem
  have hs := sum_take l q hq
  rw [h1] at hf
  obtain ⟨a, ha⟩ := Int.eq_ofNat_of_zero_le h2
  obtain ⟨c, hc⟩ := Int.eq_ofNat_of_zero_le h3
  obtain ⟨X, hX⟩ := Int.eq_ofNat_of_zero_le h4
  obtain ⟨Y, hY⟩ := Int.eq_ofNat_of_zero_le h5
  rw [ha, hX, hc, hY] at hs
  rw [ha, hc, hX, hY] at hf h1
  rw [hX, hY] at hkm
  simp only [Int.toNat_natCast, Nat.zero_add] at hf h1 hkm
  exact ⟨a, c, X, Y, h1, ha, hc, hX, hY, hf.2.2.1, hf.2.2.2.1, hf.1, hf.2.1, hkm, by rw [hs.1]; omega, by rw [hs.2]; omega⟩

theorem part_len {T : List Sen} {n : Nat} (hT : T.length = n) {a x : Nat} (h : a + x ≤ n) : ((T.drop a).take x).length = x := by
  rw [List.length_take, List.length_drop]
  omega

set_option maxRecDepth 100000 in
set_option maxHeartbeats 1000000 in
theorem refCost_any (L R : List Sen) (l : List (Int × Int)) (ms : List (Nat × Nat × Nat × Nat)) (n m ns nc mc sc : Nat) (la ra sa : Option Addr) (w : World) (hL : L.length = n) (hR : R.length = m) (hn : n ≤ 1000) (hm : m ≤ 1000) (hnc : n ≤ nc) (hmc : m ≤ mc) (fL : FineR L) (fR : FineR R) (hl : l.length = ns) (hns : ns ≤ 1000) (hmm : matchM n m l = some ms) (hS : TextAt w la L) (hT : TextAt w ra R) (hP : PairsAt w sa l) :
    Calls Try.prog 22 #[.slice la n nc, .slice ra m mc, .slice sa ns sc] w fun e w' => e = .returned (.int .i64 (costM L R ms : Nat)) ∧ Below w.heap.size w w' := by
  have hml : ms.length = ns := by rw [(match_fits hmm).1, hl]
  have HST : Hid (∀ q, q < ns → StepAt l ms n m q) := hid (fun q hq => step_all hmm q (by omega))
  have HCT : Hid (∀ q, q < ns → costM L R (ms.take (q + 1)) = costM L R (ms.take q) + priceAt L R (ms.getD q default).1 (ms.getD q default).2.1 (ms.getD q default).2.2) := hid (fun q hq => costM_take L R ms q (by omega))
  have HALL : Hid (costM L R ms = costM L R (ms.take ns)) := hid (by rw [← hml, List.take_length])
  have hpr : ∀ (a c X Y : Nat) (W : World), (X, Y) ∈ kinds → a + X ≤ n → c + Y ≤ m → Below w.heap.size w W → Calls Try.prog 57 #[.slice (subA la nc a 2) X (nc - a), .slice (subA ra mc c 2) Y (mc - c)] W fun e w' => e = .returned (.int .i64 (priceAt L R a c (X, Y) : Nat)) ∧ Below W.heap.size W w' := fun a c X Y W hk h1 h2 hb => by
    have l1 := part_len hL h1
    have l2 := part_len hR h2
    have h := refPrice_any ((L.drop a).take X) ((R.drop c).take Y) X (nc - a) Y (mc - c) (subA la nc a 2) (subA ra mc c 2) W l1 (by omega) (fL.part a X).few (by omega) ((hS.grown hb).part hL hnc a X h1) l2 (by omega) (fR.part c Y).few (by omega) ((hT.grown hb).part hR hmc c Y h2)
    rw [refPrice_is (fL.part a X).ok (fR.part c Y).ok (fL.part a X).once (fR.part c Y).once hk l1 l2] at h
    exact h
  have hsl : ∀ (a e X : Nat) W, a + X = e → e ≤ n → (Instr.slice 22 (.slice la n nc) (some (.int .i64 (a : Int))) (some (.int .i64 (e : Int))) none).run Try.prog W = .ok (.slice (subA la nc a 2) X (nc - a)) W := fun a e X W h1 h2 => by
    have h := slice22 la n nc a e (by omega) (by omega) W
    rw [show e - a = X by omega] at h
    exact h
  have hsr : ∀ (a e X : Nat) W, a + X = e → e ≤ m → (Instr.slice 22 (.slice ra m mc) (some (.int .i64 (a : Int))) (some (.int .i64 (e : Int))) none).run Try.prog W = .ok (.slice (subA ra mc a 2) X (mc - a)) W := fun a e X W h1 h2 => by
    have h := slice22 ra m mc a e (by omega) (by omega) W
    rw [show e - a = X by omega] at h
    exact h
  have HPL : Hid (∀ a c X Y, priceAt L R a c (X, Y) ≤ 2060) := hid (fun a c X Y => priceM_le _ _ _ _)
  have HL := hid hl
  clear hl hmm hml hL hR hS hT fL fR
  go_enter Try.func22, Try.ntmps22
  go_wp2_with fail
  go_loopw [7, 8, 9, 10, 11, 12] (fun nv iv kv jv _ _ wr => ∃ (q a c z : Nat), q ≤ ns ∧ jv = .int .i64 q ∧ iv = .int .i64 a ∧ kv = .int .i64 c ∧ nv = .int .i64 z ∧ Hid (sumL (l.take q) = (a : Int)) ∧ Hid (sumR (l.take q) = (c : Int)) ∧ Hid (z = costM L R (ms.take q)) ∧ z ≤ 2060 * q ∧ Below w.heap.size w wr) (fun _ _ _ jv _ _ _ => ns - (intOf jv).toNat)
  case atStart => exact ⟨0, 0, 0, 0, Nat.zero_le _, rfl, rfl, rfl, rfl, hid rfl, hid rfl, hid rfl, by omega, Below.refl _ _⟩
  case round =>
    obtain ⟨q, a, c, z, hq, rfl, rfl, rfl, rfl, HA, HC, HZ, hz, hB⟩ := hrel
    by_cases hlt : q < ns
    · have hlt' : (q : Int) < ns := by omega
      have hq0 : (0 : Int) ≤ (q : Int) := by omega
      obtain ⟨b1, x1, es, s1, s2⟩ := (hP.grown hB) q (by rw [HL.out]; exact hlt)
      subst es
      obtain ⟨a', c', X, Y, hm0, h1, h2, h3, h4, f3, f4, f1, f2, hkd, h14, h15⟩ := HST.out q hlt
      obtain rfl : a' = a := by have := HA.out; omega
      obtain rfl : c' = c := by have := HC.out; omega
      have hct := HCT.out q hlt
      rw [hm0] at hct
      simp only at hct
      rw [h3] at s1
      rw [h4] at s2
      have hpb := HPL.out a' c' X Y
      have H14 := hid h14
      have H15 := hid h15
      obtain ⟨e, he⟩ : ∃ e, a' + X = e := ⟨_, rfl⟩
      obtain ⟨f, hf⟩ : ∃ f, c' + Y = f := ⟨_, rfl⟩
      have hse := fun W => hsl a' e X W he (by omega)
      have hsf := fun W => hsr c' f Y W hf (by omega)
      have hpc := fun W hb => hpr a' c' X Y W hkd f1 f2 hb
      generalize priceAt L R a' c' (X, Y) = pr at hct hpc hpb
      rw [he] at H14
      rw [hf] at H15
      have HCT2 := hid hct
      have w1 : IntKind.i64.wrap ((a' : Int) + X) = (e : Int) := by rw [IntKind.wrap_i64]; omega
      have w2 : IntKind.i64.wrap ((c' : Int) + Y) = (f : Int) := by rw [IntKind.wrap_i64]; omega
      have w3 : IntKind.i64.wrap ((z : Int) + pr) = ((z + pr : Nat) : Int) := by rw [IntKind.wrap_i64]; omega
      have hgs := lt_of_cell s1
      clear hm0 h1 h2 h3 h4 h14 h15 hct he hf hkd
      go_wp2_with fail
      have oa : ∀ p : Over wr, p.w.cell? ⟨b1, x1 + q * 2, none⟩ = some (.int .i64 (X : Int)) := fun p => p.cell s1
      have ob : ∀ p : Over wr, p.w.cell? ⟨b1, x1 + q * 2 + 1, none⟩ = some (.int .i64 (Y : Int)) := fun p => p.cell s2
      refine wp_region_over wr (Below.refl _ _) (by kernel_rfl) (by kernel_rfl) ?_
      repeat (go_big_quiet_step (fail))
      refine wpQuiet_nil ?_
      intro wz hw'
      have hbz := below_then hB (over_below hw')
      clear hw' oa ob w1 w2
      go_wp2_with fail
      have hcA : ∀ p : Over wz, _ := fun p => hpc p.w (below_then hbz p.h)
      refine wp_region_over wz (Below.refl _ _) (by kernel_rfl) (by kernel_rfl) ?_
      repeat (go_big_quiet_step (first | (go_at_call 57; exact Calls.over_of (hcA _))))
      refine wpQuiet_nil ?_
      intro wy hw'
      have hby := below_then hbz (over_below hw')
      clear hw' hcA hse hsf w3
      go_wp2_with fail
      go_roundw
      case rel => exact ⟨q + 1, e, f, z + pr, by omega, by go_num, rfl, rfl, rfl, H14, H15, hid (by rw [HCT2.out, HZ.out]), by omega, hby⟩
      case measure => simp [intOf]; omega
    · have hqn : q = ns := by omega
      subst hqn
      have HX : Hid (costM L R ms = z) := hid (by rw [HALL.out, HZ.out])
      go_wp2_with fail
      go_ret
      exact ⟨by rw [HX.out]; rfl, hB⟩

set_option maxHeartbeats 1000000 in
/-- The same numbers, in two rows. -/
theorem ints_same (Z : List Int) (n c d : Nat) (a b : Option Addr) (w : World) (hZ : Z.length = n) (hn : n ≤ 1000000) (hA : IntsAt w a Z) (hB : IntsAt w b Z) :
    Calls Try.prog 29 #[.slice a n c, .slice b n d] w fun e w' => e = .returned (.bool true) ∧ Below w.heap.size w w' := by
  have HL := hid hZ
  have hnn : ((n : Int) != (n : Int)) = false := by simp
  clear hZ
  go_enter Try.func29, Try.ntmps29
  go_wp2_with fail
  go_loopw [5] (fun i wr => ∃ q : Nat, q ≤ n ∧ i = .int .i64 q ∧ Below w.heap.size w wr) (fun i _ => n - (intOf i).toNat)
  case atStart => exact ⟨0, Nat.zero_le _, rfl, Below.refl _ _⟩
  case round =>
    obtain ⟨q, hq, rfl, hBr⟩ := hrel
    by_cases hlt : q < n
    · have hlt' : (q : Int) < n := by omega
      have hq0 : (0 : Int) ≤ (q : Int) := by omega
      obtain ⟨b1, x1, e1, s1⟩ := (hA.grown hBr) q (by rw [HL.out]; exact hlt)
      obtain ⟨b2, x2, e2, s2⟩ := (hB.grown hBr) q (by rw [HL.out]; exact hlt)
      subst e1 e2
      generalize Z.getD q 0 = x at s1 s2
      have hxx : (x != x) = false := by simp
      have g1 := lt_of_cell s1
      have g2 := lt_of_cell s2
      go_wp2_with fail
      have oa : ∀ p : Over wr, p.w.cell? ⟨b1, x1 + q, none⟩ = some (.int .i64 x) := fun p => p.cell s1
      have ob : ∀ p : Over wr, p.w.cell? ⟨b2, x2 + q, none⟩ = some (.int .i64 x) := fun p => p.cell s2
      refine wp_region_over wr (Below.refl _ _) (by kernel_rfl) (by kernel_rfl) ?_
      repeat (go_big_quiet_step (fail))
      refine wpQuiet_nil ?_
      intro wz hw'
      have hbz := below_then hBr (over_below hw')
      clear hw' oa ob
      go_wp2_with fail
      go_roundw
      case rel => exact ⟨q + 1, by omega, by go_num, hbz⟩
      case measure => simp [intOf]; omega
    · have hqn : q = n := by omega
      subst hqn
      go_wp2_with fail
      go_ret
      exact ⟨rfl, hBr⟩

set_option maxRecDepth 100000 in
set_option maxHeartbeats 1000000 in
theorem refDiffs_any (L R : List Sen) (l : List (Int × Int)) (ms : List (Nat × Nat × Nat × Nat)) (n m ns nc mc sc : Nat) (la ra sa : Option Addr) (w : World) (hL : L.length = n) (hR : R.length = m) (hn : n ≤ 1000) (hm : m ≤ 1000) (hnc : n ≤ nc) (hmc : m ≤ mc) (fL : FineR L) (fR : FineR R) (hl : l.length = ns) (hns : ns ≤ 1000) (hmm : matchM n m l = some ms) (hS : TextAt w la L) (hT : TextAt w ra R) (hP : PairsAt w sa l) :
    Calls Try.prog 30 #[.slice la n nc, .slice ra m mc, .slice sa ns sc] w fun e w' => ∃ r rc, e = .returned (.slice r (difsM L R ms ns).length rc) ∧ IntsAt w' r (difsM L R ms ns) ∧ Below w.heap.size w w' := by
  obtain ⟨i0, hi0, hz0, hz1, hz2⟩ := info_parts Try.info3
  have hml : ms.length = ns := by rw [(match_fits hmm).1, hl]
  have HST : Hid (∀ q, q < ns → StepAt l ms n m q) := hid (fun q hq => step_all hmm q (by omega))
  have HYE : Hid (∀ q, difM L R (ms.getD q default) = true → difsM L R ms (q + 1) = difsM L R ms q ++ [(q : Int)]) := hid (fun q => difsM_yes L R ms q)
  have HNO : Hid (∀ q, difM L R (ms.getD q default) = false → difsM L R ms (q + 1) = difsM L R ms q) := hid (fun q => difsM_no L R ms q)
  have hmi : ∀ (a c X Y : Nat), a + X ≤ n → c + Y ≤ m → ∃ u v : Nat, difM L R (a, c, X, Y) = decide (0 < u + v) ∧ u ≤ 1000000 ∧ v ≤ 1000000 ∧ ∀ W : World, Below w.heap.size w W →
      (Calls Try.prog 63 #[.slice (subA la nc a 2) X (nc - a), .slice (subA ra mc c 2) Y (mc - c)] W fun e w' => e = .returned (.int .i64 (u : Nat)) ∧ Below W.heap.size W w') ∧
      (Calls Try.prog 63 #[.slice (subA ra mc c 2) Y (mc - c), .slice (subA la nc a 2) X (nc - a)] W fun e w' => e = .returned (.int .i64 (v : Nat)) ∧ Below W.heap.size W w') := fun a c X Y h1 h2 => by
    have l1 := part_len hL h1
    have l2 := part_len hR h2
    refine ⟨missM ((L.drop a).take X) ((R.drop c).take Y), missM ((R.drop c).take Y) ((L.drop a).take X), ?_, ?_, ?_, fun W hb => ⟨?_, ?_⟩⟩
    · unfold difM
      rw [apart_miss (fL.part a X).ok (fR.part c Y).ok (fL.part a X).once (fR.part c Y).once]
    · have := missM_le ((L.drop a).take X) ((R.drop c).take Y) X l1 (fL.part a X).few
      omega
    · have := missM_le ((R.drop c).take Y) ((L.drop a).take X) Y l2 (fR.part c Y).few
      omega
    · exact missing_any _ _ X (nc - a) Y (mc - c) (subA la nc a 2) (subA ra mc c 2) W l1 (by omega) (fL.part a X).few (by omega) ((hS.grown hb).part hL hnc a X h1) l2 (by omega) (fR.part c Y).few ((hT.grown hb).part hR hmc c Y h2)
    · exact missing_any _ _ Y (mc - c) X (nc - a) (subA ra mc c 2) (subA la nc a 2) W l2 (by omega) (fR.part c Y).few (by omega) ((hT.grown hb).part hR hmc c Y h2) l1 (by omega) (fL.part a X).few ((hS.grown hb).part hL hnc a X h1)
  have hsl : ∀ (a e X : Nat) W, a + X = e → e ≤ n → (Instr.slice 22 (.slice la n nc) (some (.int .i64 (a : Int))) (some (.int .i64 (e : Int))) none).run Try.prog W = .ok (.slice (subA la nc a 2) X (nc - a)) W := fun a e X W h1 h2 => by
    have h := slice22 la n nc a e (by omega) (by omega) W
    rw [show e - a = X by omega] at h
    exact h
  have hsr : ∀ (a e X : Nat) W, a + X = e → e ≤ m → (Instr.slice 22 (.slice ra m mc) (some (.int .i64 (a : Int))) (some (.int .i64 (e : Int))) none).run Try.prog W = .ok (.slice (subA ra mc a 2) X (mc - a)) W := fun a e X W h1 h2 => by
    have h := slice22 ra m mc a e (by omega) (by omega) W
    rw [show e - a = X by omega] at h
    exact h
  have HLE : Hid (∀ q, (difsM L R ms q).length ≤ q) := hid (fun q => difsM_le L R ms q)
  have HL := hid hl
  clear hl hmm hml hL hR hS hT fL fR
  go_enter Try.func30, Try.ntmps30
  go_wp2_with fail
  go_loopw [7, 8, 9, 10, 11, 12] (fun ov iv kv jv _ _ wr => ∃ (q a c : Nat), q ≤ ns ∧ jv = .int .i64 q ∧ iv = .int .i64 a ∧ kv = .int .i64 c ∧ Hid (sumL (l.take q) = (a : Int)) ∧ Hid (sumR (l.take q) = (c : Int)) ∧ wr.ownsRow w.heap.size 3 1 ov (difsM L R ms q).length ((difsM L R ms q).map fun z => .int .i64 z) ∧ Below w.heap.size w wr) (fun _ _ _ jv _ _ _ => ns - (intOf jv).toNat)
  case atStart => exact ⟨0, 0, 0, Nat.zero_le _, rfl, rfl, rfl, hid rfl, hid rfl, World.ownsRow_nil _ _ _ _, Below.refl _ _⟩
  case round =>
    obtain ⟨q, a, c, hq, rfl, rfl, rfl, HA, HC, hown, hB⟩ := hrel
    obtain ⟨va, vc, rfl⟩ := owns_shape hown
    by_cases hlt : q < ns
    · have hlt' : (q : Int) < ns := by omega
      have hq0 : (0 : Int) ≤ (q : Int) := by omega
      obtain ⟨b1, x1, es, s1, s2⟩ := (hP.grown hB) q (by rw [HL.out]; exact hlt)
      subst es
      obtain ⟨a', c', X, Y, hm0, h1, h2, h3, h4, f3, f4, f1, f2, hkd, h14, h15⟩ := HST.out q hlt
      obtain rfl : a' = a := by have := HA.out; omega
      obtain rfl : c' = c := by have := HC.out; omega
      have hye := HYE.out q
      have hno := HNO.out q
      have hle := HLE.out q
      rw [hm0] at hye hno
      rw [h3] at s1
      rw [h4] at s2
      have H14 := hid h14
      have H15 := hid h15
      obtain ⟨e, he⟩ : ∃ e, a' + X = e := ⟨_, rfl⟩
      obtain ⟨f, hf⟩ : ∃ f, c' + Y = f := ⟨_, rfl⟩
      have hse := fun W => hsl a' e X W he (by omega)
      have hsf := fun W => hsr c' f Y W hf (by omega)
      obtain ⟨u, v, hdm, hu, hv, hcl⟩ := hmi a' c' X Y f1 f2
      rw [hdm] at hye hno
      have HYE2 := hid hye
      have HNO2 := hid hno
      obtain ⟨dl, hdl⟩ : ∃ dl, (difsM L R ms q).length = dl := ⟨_, rfl⟩
      rw [hdl] at hown hle
      simp only [hdl]
      have HDL := hid hdl
      rw [he] at H14
      rw [hf] at H15
      have w1 : IntKind.i64.wrap ((a' : Int) + X) = (e : Int) := by rw [IntKind.wrap_i64]; omega
      have w2 : IntKind.i64.wrap ((c' : Int) + Y) = (f : Int) := by rw [IntKind.wrap_i64]; omega
      have hgs := lt_of_cell s1
      have hsz := hB.size
      clear hm0 h1 h2 h3 h4 h14 h15 he hf hkd hdm hye hno hdl
      go_wp2_with fail
      have oa : ∀ p : Over wr, p.w.cell? ⟨b1, x1 + q * 2, none⟩ = some (.int .i64 (X : Int)) := fun p => p.cell s1
      have ob : ∀ p : Over wr, p.w.cell? ⟨b1, x1 + q * 2 + 1, none⟩ = some (.int .i64 (Y : Int)) := fun p => p.cell s2
      refine wp_region_over wr (Below.refl _ _) (by kernel_rfl) (by kernel_rfl) ?_
      repeat (go_big_quiet_step (fail))
      refine wpQuiet_nil ?_
      intro wz hw'
      have hbr := over_below hw'
      have hbz := below_then hB hbr
      replace hown := book_owns hown (grown_none hbr) (fun r e => by cases e)
      clear hw' oa ob w1 w2 hbr
      go_wp2_with fail
      have hcA : ∀ p : Over wz, _ := fun p => (hcl p.w (below_then hbz p.h)).1
      have hcB : ∀ p : Over wz, _ := fun p => (hcl p.w (below_then hbz p.h)).2
      have w3 : IntKind.i64.wrap ((u : Int) + v) = (u : Int) + v := by rw [IntKind.wrap_i64]; omega
      by_cases hpos : 0 < u + v
      · have hpos' : (0 : Int) < (u : Int) + (v : Int) := by omega
        have HNE : Hid (difsM L R ms (q + 1) = difsM L R ms q ++ [(q : Int)]) := hid (HYE2.out (by simp [hpos]))
        have hdp : decide ((0 : Int) < (u : Int) + (v : Int)) = true := decide_eq_true hpos'
        clear hpos
        refine wp_region_over wz (Below.refl _ _) (by kernel_rfl) (by kernel_rfl) ?_
        repeat (go_big_quiet_step (first | (go_at_call 63; with_reducible exact Calls.over_of (hcA _)) | (go_at_call 63; with_reducible exact Calls.over_of (hcB _))))
        refine wpQuiet_nil ?_
        intro wy hw'
        have hbr := over_below hw'
        have hby := below_then hbz hbr
        have hown2 := book_owns hown (grown_none hbr) (fun r e => by cases e)
        have hs2 := hby.size
        clear hw' hcA hcB hse hsf w3 hown hbr
        go_wp2_with (at_builtin; refine wpList_append_own_at _ rfl _ _ 41 rfl w.heap.size 3 i0 (.int .i64 0) 1 8 Try.underlying41 hi0 hz0 hz1 hz2 rfl (by decide) _ _ _ rfl (hown2.alloc _) ⟨wy.heap.size, 0, none⟩ 1 1 [.int .i64 (q : Int)] rfl rfl (cell_one_new _ _ _) (by simp [Value.oneCell']) (by unfold maxLen; omega) (by omega) (by simp; omega) ?_; intro v' w5 hown' hgrow hnil hloc; have hb5 : Below w.heap.size wy w5 := (((Below.refl w.heap.size wy).alloc (by omega) _).grown hgrow (by simp; omega) (fun r e => (hown2.lt r e).1)))
        go_roundw
        case rel => exact ⟨q + 1, e, f, by omega, by go_num, rfl, rfl, H14, H15, by rw [HNE.out, List.length_append, List.map_append, HDL.out]; exact hown', hby.trans hb5⟩
        case measure => simp [intOf]; omega
      · have hpos' : ¬ (0 : Int) < (u : Int) + (v : Int) := by omega
        have HNE : Hid (difsM L R ms (q + 1) = difsM L R ms q) := hid (HNO2.out (by simp; omega))
        have hdp : decide ((0 : Int) < (u : Int) + (v : Int)) = false := decide_eq_false hpos'
        clear hpos
        refine wp_region_over wz (Below.refl _ _) (by kernel_rfl) (by kernel_rfl) ?_
        repeat (go_big_quiet_step (first | (go_at_call 63; with_reducible exact Calls.over_of (hcA _)) | (go_at_call 63; with_reducible exact Calls.over_of (hcB _))))
        refine wpQuiet_nil ?_
        intro wy hw'
        have hbr := over_below hw'
        have hby := below_then hbz hbr
        have hown2 := book_owns hown (grown_none hbr) (fun r e => by cases e)
        clear hw' hcA hcB hse hsf w3 hown hbr
        go_wp2_with fail
        go_roundw
        case rel => exact ⟨q + 1, e, f, by omega, by go_num, rfl, rfl, H14, H15, by rw [HNE.out, HDL.out]; exact hown2, hby⟩
        case measure => simp [intOf]; omega
    · have hqn : q = ns := by omega
      subst hqn
      have hin := ints_of_owns (L := difsM L R ms q) (a := va) (cap := vc) (W := wr) (e := 3) (base := w.heap.size) hown
      go_wp2_with fail
      go_ret
      exact ⟨va, vc, rfl, hin, hB⟩

set_option maxRecDepth 100000 in
set_option maxHeartbeats 2000000 in
theorem refLevel_any (L R : List Sen) (l : List (Int × Int)) (ms : List (Nat × Nat × Nat × Nat)) (n m ns nc mc sc : Nat) (la ra sa : Option Addr) (w : World) (hL : L.length = n) (hR : R.length = m) (hn : n ≤ 1000) (hm : m ≤ 1000) (hnc : n ≤ nc) (hmc : m ≤ mc) (zL : SizesOk L) (zR : SizesOk R) (hl : l.length = ns) (hns : ns ≤ 1000) (hmm : matchM n m l = some ms) (hS : TextAt w la L) (hT : TextAt w ra R) (hP : PairsAt w sa l) :
    Calls Try.prog 28 #[.slice la n nc, .slice ra m mc, .slice sa ns sc] w fun e w' => ∃ r rc, e = .returned (.tuple #[.slice r ns rc, .int .i64 (linesM L R ms ns), .int .i64 (blankM L R ms ns)]) ∧ IntsAt w' r (beginsM L R ms ns) ∧ Below w.heap.size w w' := by
  obtain ⟨i0, hi0, hz0, hz1, hz2⟩ := info_parts Try.info3
  have hml : ms.length = ns := by rw [(match_fits hmm).1, hl]
  have HST : Hid (∀ q, q < ns → StepAt l ms n m q) := hid (fun q hq => step_all hmm q (by omega))
  have HL1 : Hid (∀ j, j < ns → linesM L R ms (j + 1) = linesM L R ms j + wideM L R (ms.getD j default)) := hid (fun j hj => linesM_succ L R ms j (by omega))
  have HL2 : Hid (∀ j, j < ns → blankM L R ms (j + 1) = blankM L R ms j + (wideM L R (ms.getD j default) - leftS L (ms.getD j default) + wideM L R (ms.getD j default) - rightS R (ms.getD j default))) := hid (fun j hj => blankM_succ L R ms j (by omega))
  have HL3 : Hid (∀ j, beginsM L R ms (j + 1) = beginsM L R ms j ++ [linesM L R ms j]) := hid (beginsM_succ L R ms)
  have HLN : Hid (∀ j, (beginsM L R ms j).length = j) := hid (beginsM_length L R ms)
  have hpl : ∀ (Z : World) (i x : Nat), Below w.heap.size w Z → i + x ≤ n → Calls Try.prog 50 #[.slice (subA la nc i 2) x (nc - i)] Z fun e w' => e = .returned (.int .i64 (sizeM ((L.drop i).take x))) ∧ Below Z.heap.size Z w' := fun Z i x hbz h1 =>
    refSize_any ((L.drop i).take x) x (nc - i) (subA la nc i 2) Z (part_len hL h1) (by omega) (zL.part _ _) ((hS.grown hbz).part hL hnc i x h1)
  have hpr : ∀ (Z : World) (k y : Nat), Below w.heap.size w Z → k + y ≤ m → Calls Try.prog 50 #[.slice (subA ra mc k 2) y (mc - k)] Z fun e w' => e = .returned (.int .i64 (sizeM ((R.drop k).take y))) ∧ Below Z.heap.size Z w' := fun Z k y hbz h1 =>
    refSize_any ((R.drop k).take y) y (mc - k) (subA ra mc k 2) Z (part_len hR h1) (by omega) (zR.part _ _) ((hT.grown hbz).part hR hmc k y h1)
  have hsl : ∀ (a e X : Nat) W, a + X = e → e ≤ n → (Instr.slice 22 (.slice la n nc) (some (.int .i64 (a : Int))) (some (.int .i64 (e : Int))) none).run Try.prog W = .ok (.slice (subA la nc a 2) X (nc - a)) W := fun a e X W h1 h2 => by
    have h := slice22 la n nc a e (by omega) (by omega) W
    rw [show e - a = X by omega] at h
    exact h
  have hsr : ∀ (a e X : Nat) W, a + X = e → e ≤ m → (Instr.slice 22 (.slice ra m mc) (some (.int .i64 (a : Int))) (some (.int .i64 (e : Int))) none).run Try.prog W = .ok (.slice (subA ra mc a 2) X (mc - a)) W := fun a e X W h1 h2 => by
    have h := slice22 ra m mc a e (by omega) (by omega) W
    rw [show e - a = X by omega] at h
    exact h
  have HBL : Hid (∀ a X, X ≤ 2 → 0 ≤ sizeM ((L.drop a).take X) ∧ sizeM ((L.drop a).take X) ≤ 400) := hid (fun a X h => part_bd zL a X h)
  have HBR : Hid (∀ a X, X ≤ 2 → 0 ≤ sizeM ((R.drop a).take X) ∧ sizeM ((R.drop a).take X) ≤ 400) := hid (fun a X h => part_bd zR a X h)
  have HW : Hid (∀ a c X Y, wideM L R (a, c, X, Y) = max (sizeM ((L.drop a).take X)) (sizeM ((R.drop c).take Y)) ∧ leftS L (a, c, X, Y) = sizeM ((L.drop a).take X) ∧ rightS R (a, c, X, Y) = sizeM ((R.drop c).take Y)) := hid (fun _ _ _ _ => ⟨rfl, rfl, rfl⟩)
  have HL := hid hl
  clear hl hmm hml hL hR hS hT zL zR
  go_enter Try.func28, Try.ntmps28
  go_wp2_with fail
  go_loopw [9, 10, 11, 12, 13, 14, 15, 16, 17, 18] (fun ov lv bv iv kv jv _ _ _ _ wr => ∃ (q a c : Nat) (s z : Int), q ≤ ns ∧ jv = .int .i64 q ∧ iv = .int .i64 a ∧ kv = .int .i64 c ∧ lv = .int .i64 s ∧ bv = .int .i64 z ∧ Hid (sumL (l.take q) = (a : Int)) ∧ Hid (sumR (l.take q) = (c : Int)) ∧ Hid (s = linesM L R ms q) ∧ Hid (z = blankM L R ms q) ∧ 0 ≤ s ∧ s ≤ 400 * q ∧ 0 ≤ z ∧ z ≤ 800 * q ∧ wr.ownsRow w.heap.size 3 1 ov q ((beginsM L R ms q).map fun z => .int .i64 z) ∧ Below w.heap.size w wr) (fun _ _ _ _ _ jv _ _ _ _ _ => ns - (intOf jv).toNat)
  case atStart => exact ⟨0, 0, 0, 0, 0, Nat.zero_le _, rfl, rfl, rfl, rfl, rfl, hid rfl, hid rfl, hid rfl, hid rfl, by omega, by omega, by omega, by omega, World.ownsRow_nil _ _ _ _, Below.refl _ _⟩
  case round =>
    obtain ⟨q, a, c, s, z, hq, rfl, rfl, rfl, rfl, rfl, HA, HC, HS, HZ, sb1, sb2, zb1, zb2, hown, hB⟩ := hrel
    obtain ⟨va, vc, rfl⟩ := owns_shape hown
    by_cases hlt : q < ns
    · have hlt' : (q : Int) < ns := by omega
      have hq0 : (0 : Int) ≤ (q : Int) := by omega
      obtain ⟨b1, x1, es, s1, s2⟩ := (hP.grown hB) q (by rw [HL.out]; exact hlt)
      subst es
      obtain ⟨a', c', X, Y, hm0, h1, h2, h3, h4, f3, f4, f1, f2, hkd, h14, h15⟩ := HST.out q hlt
      obtain rfl : a' = a := by have := HA.out; omega
      obtain rfl : c' = c := by have := HC.out; omega
      have g1 := HL1.out q hlt
      have g2 := HL2.out q hlt
      obtain ⟨v1, v2, v3⟩ := HW.out a' c' X Y
      have u1 := HBL.out a' X f3
      have u2 := HBR.out c' Y f4
      rw [hm0, v1] at g1
      rw [hm0, v1, v2, v3] at g2
      rw [h3] at s1
      rw [h4] at s2
      have H14 := hid h14
      have H15 := hid h15
      obtain ⟨e, he⟩ : ∃ e, a' + X = e := ⟨_, rfl⟩
      obtain ⟨f, hf⟩ : ∃ f, c' + Y = f := ⟨_, rfl⟩
      have hse := fun W => hsl a' e X W he (by omega)
      have hsf := fun W => hsr c' f Y W hf (by omega)
      have hca := fun W hb => hpl W a' X hb f1
      have hcb := fun W hb => hpr W c' Y hb f2
      generalize sizeM ((L.drop a').take X) = u at hca g1 g2 u1
      generalize sizeM ((R.drop c').take Y) = v at hcb g1 g2 u2
      obtain ⟨mx, hmx⟩ : ∃ m, (if u < v then v else u) = m := ⟨_, rfl⟩
      obtain ⟨mn, hmn⟩ : ∃ m, (if v < u then v else u) = m := ⟨_, rfl⟩
      have hm1 : max u v = mx := by rw [← hmx]; split <;> omega
      have hm2 : mn = u + v - mx := by rw [← hmx, ← hmn]; split <;> split <;> omega
      have hmb : 0 ≤ mx ∧ mx ≤ 400 ∧ u ≤ mx ∧ v ≤ mx := by omega
      rw [hm1] at g1 g2
      have G1 := hid g1
      have G2 : Hid (blankM L R ms (q + 1) = blankM L R ms q + (mx - mn)) := hid (by rw [g2]; omega)
      have G3 := hid (HL3.out q)
      rw [he] at H14
      rw [hf] at H15
      have w1 : IntKind.i64.wrap ((a' : Int) + X) = (e : Int) := by rw [IntKind.wrap_i64]; omega
      have w2 : IntKind.i64.wrap ((c' : Int) + Y) = (f : Int) := by rw [IntKind.wrap_i64]; omega
      have hgs := lt_of_cell s1
      have hsz := hB.size
      clear hm0 h1 h2 h3 h4 h14 h15 he hf hkd g1 g2 v1 v2 v3 hm1
      go_wp2_with fail
      have oa : ∀ p : Over wr, p.w.cell? ⟨b1, x1 + q * 2, none⟩ = some (.int .i64 (X : Int)) := fun p => p.cell s1
      have ob : ∀ p : Over wr, p.w.cell? ⟨b1, x1 + q * 2 + 1, none⟩ = some (.int .i64 (Y : Int)) := fun p => p.cell s2
      refine wp_region_over wr (Below.refl _ _) (by kernel_rfl) (by kernel_rfl) ?_
      repeat (go_big_quiet_step (fail))
      refine wpQuiet_nil ?_
      intro wz hw'
      have hbr := over_below hw'
      have hbz := below_then hB hbr
      replace hown := book_owns hown (grown_none hbr) (fun r e => by cases e)
      clear hw' oa ob w1 w2 hbr
      go_wp2_with fail
      have hcA : ∀ p : Over wz, _ := fun p => hca p.w (below_then hbz p.h)
      have hcB : ∀ p : Over wz, _ := fun p => hcb p.w (below_then hbz p.h)
      refine wp_region_over wz (Below.refl _ _) (by kernel_rfl) (by kernel_rfl) ?_
      repeat (go_big_quiet_step (first | (go_at_call 50; with_reducible exact Calls.over_of (hcA _)) | (go_at_call 50; with_reducible exact Calls.over_of (hcB _))))
      refine wpQuiet_nil ?_
      intro wy hw'
      have hbr := over_below hw'
      have hby := below_then hbz hbr
      have hown2 := book_owns hown (grown_none hbr) (fun r e => by cases e)
      have hs2 := hby.size
      clear hw' hcA hcB hse hsf hown hbr
      have w3 : IntKind.i64.wrap (s + mx) = s + mx := by rw [IntKind.wrap_i64]; omega
      have w4 : IntKind.i64.wrap (mx - mn) = mx - mn := by rw [IntKind.wrap_i64]; omega
      have w5 : IntKind.i64.wrap (z + (mx - mn)) = z + (mx - mn) := by rw [IntKind.wrap_i64]; omega
      go_wp2_with (at_builtin; refine wpList_append_own_at _ rfl _ _ 41 rfl w.heap.size 3 i0 (.int .i64 0) 1 8 Try.underlying41 hi0 hz0 hz1 hz2 rfl (by decide) _ _ _ rfl (hown2.alloc _) ⟨wy.heap.size, 0, none⟩ 1 1 [.int .i64 s] rfl rfl (cell_one_new _ _ _) (by simp [Value.oneCell']) (by unfold maxLen; omega) (by omega) (by simp; omega) ?_; intro v' w5 hown' hgrow hnil hloc; have hb5 : Below w.heap.size wy w5 := (((Below.refl w.heap.size wy).alloc (by omega) _).grown hgrow (by simp; omega) (fun r e => (hown2.lt r e).1)))
      go_roundw
      case rel => exact ⟨q + 1, e, f, s + mx, z + (mx - mn), by omega, by go_num, rfl, rfl, by go_num, by go_num, H14, H15, hid (by rw [G1.out, HS.out]), hid (by rw [G2.out, HZ.out]), by omega, by omega, by omega, by omega, by rw [G3.out, List.map_append, ← HS.out]; exact hown', hby.trans hb5⟩
      case measure => simp [intOf]; omega
    · have hqn : q = ns := by omega
      subst hqn
      have hin := ints_of_owns (L := beginsM L R ms q) (a := va) (cap := vc) (W := wr) (e := 3) (base := w.heap.size) (by rw [HLN.out]; exact hown)
      go_wp2_with fail
      have HSO := HS.out
      have HZO := HZ.out
      exact bodyPost_ret (v := .tuple #[.slice va q vc, .int .i64 s, .int .i64 z]) (by simp [results, Try.f28, go_sem]) rfl ⟨va, vc, by rw [← HSO, ← HZO], hin, hB⟩

end Go.Proofs.Ytohahlnhbppnhaa
