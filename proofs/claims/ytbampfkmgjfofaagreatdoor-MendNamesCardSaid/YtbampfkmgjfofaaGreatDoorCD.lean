/- Mend: the law MendTroubles, walked. -/
import Derived.Test.YtbampfkmgjfofaaGreatDoorCA
import Derived.Test.YtbampfkmgjfofaaGreatDoorCC
namespace Go.Proofs.YtbampfkmgjfofaaGreatDoor
open Go.RowKit

theorem thin_sizes {l : Lex} {n1 n2 n3 : Nat} (h : ThinOk l) (h1 : l.nums.length = n1) (h2 : l.names.length = n2) (h3 : l.nots.length = n3) : n1 ≤ 1000 ∧ n2 ≤ 1000 ∧ n3 ≤ 1000 := by
  have := h.n1; have := h.n2; have := h.n3; omega

set_option maxRecDepth 100000 in
set_option maxHeartbeats 1000000 in
theorem fault_any (l : Lex) (a1 a2 a3 : Option Addr) (n1 n2 n3 c1 c2 c3 : Nat) (S : List (Int × Int × Int)) (sa : Option Addr) (sn sc : Nat) (w : World) (h1 : l.nums.length = n1) (h2 : l.names.length = n2) (h3 : l.nots.length = n3) (hT : ThinOk l) (hLx : LexAt w a1 a2 a3 l)
    (hs : S.length = sn) (hsn : sn ≤ 1000) (hSw : SwapsAt w sa S) :
    Calls Tryz.prog 28 #[.agg #[.slice a1 n1 c1, .slice a2 n2 c2, .slice a3 n3 c3], .slice sa sn sc] w fun e w' => e = .returned (.int .i64 (readErr l S)) ∧ Below w.heap.size w w' := by
  obtain ⟨q1, q2, q3⟩ := thin_sizes hT h1 h2 h3
  have hB := below_alloc w (.cells #[.slice a1 n1 c1, .slice a2 n2 c2, .slice a3 n3 c3] 26)
  have hcon := lexFault_any l a1 a2 a3 n1 n2 n3 c1 c2 c3 _ h1 h2 h3 q1 q2 q3 hT.m2 hT.s1 hT.s2 hT.s3 (hLx.grown hB)
  have HS := hid hs
  clear h1 h2 h3 hs
  obtain ⟨z, hz⟩ : ∃ z, readErr l S = z := ⟨_, rfl⟩
  rw [hz]
  obtain ⟨le, hle⟩ : ∃ z, lexErr l = z := ⟨_, rfl⟩
  rw [hle] at hcon
  have HZ : Hid ((if le = 0 then swapsErr S else le) = z) := hid (by rw [← hz, readErr, hle])
  clear hz hle
  go_enter Tryz.func28, Tryz.ntmps28
  by_cases h0 : le = 0
  · subst h0
    have hz : swapsErr S = z := by rw [← HZ.out, if_pos rfl]
    clear HZ
    go_wp2_with fail
    refine hcon.mono ?_
    rintro e w1 ⟨rfl, hb⟩
    have hb2 := below_then hB hb
    have hcon2 := swapsFault_any S sn sc sa w1 HS.out hsn (hSw.grown hb2)
    rw [hz] at hcon2
    clear hz
    go_wp2_with (go_at_call 48; refine hcon2.mono ?_; rintro e w2 ⟨rfl, rfl⟩)
    go_ret
    exact ⟨rfl, hb2⟩
  · have hz : z = le := by rw [← HZ.out, if_neg h0]
    have g0 : (le != 0) = true := by simpa using h0
    subst hz
    clear HZ h0
    go_wp2_with fail
    refine hcon.mono ?_
    rintro e w1 ⟨rfl, hb⟩
    go_wp2
    go_ret
    exact ⟨rfl, below_then hB hb⟩

theorem textsErr_two (A B : List Tx) : textsErr [A, B] = if 80 < A.length ∨ 80 < B.length then 3 else if listedM A = 0 then listedM B else listedM A := by
  unfold textsErr listedM
  by_cases hA : A.length ≤ 80
  · have hA' : ¬ 80 < A.length := by omega
    by_cases hB : B.length ≤ 80
    · have hB' : ¬ 80 < B.length := by omega
      cases h1 : A.all textOk <;> cases h2 : B.all textOk <;> simp [hA, hA', hB, hB', h1, h2]
    · have hB' : 80 < B.length := by omega
      simp [hB, hB']
  · have hA' : 80 < A.length := by omega
    simp [hA, hA']

set_option maxRecDepth 100000 in
set_option maxHeartbeats 8000000 in
theorem mendTroubles_any (l : Lex) (a1 a2 a3 : Option Addr) (n1 n2 n3 c1 c2 c3 : Nat) (S : List (Int × Int × Int)) (sa : Option Addr) (sn sc : Nat) (A : List Tx) (n nc : Nat) (aa : Option Addr) (B : List Tx) (m mc : Nat) (ba : Option Addr) (w : World)
    (h1 : l.nums.length = n1) (h2 : l.names.length = n2) (h3 : l.nots.length = n3) (hLx : LexAt w a1 a2 a3 l) (hs : S.length = sn) (hsn : sn ≤ maxLen) (hSw : SwapsAt w sa S) (hAl : A.length = n) (hn : n ≤ maxLen) (hA : Strs w aa A) (hBl : B.length = m) (hm : m ≤ maxLen) (hB2 : Strs w ba B) (hstd : Std w) :
    Calls Tryz.prog 4 #[.agg #[.slice a1 n1 c1, .slice a2 n2 c2, .slice a3 n3 c3], .slice sa sn sc, .slice aa n nc, .slice ba m mc] w fun e w' => e = .returned (.bool true) ∧ Below w.heap.size w w' := by
  have H1 := hid h1; have H2 := hid h2; have H3 := hid h3; have HS := hid hs; have HA := hid hAl; have HB3 := hid hBl
  have HN1 := hid hn; have HN2 := hid hm; have HN3 := hid hsn
  clear h1 h2 h3 hs hAl hBl hn hm hsn
  obtain ⟨W0, hW0⟩ : ∃ W0, W0 = w.alloc (.cells #[.slice a1 n1 c1, .slice a2 n2 c2, .slice a3 n3 c3] 26) := ⟨_, rfl⟩
  have hB0 : Below w.heap.size w W0 := by rw [hW0]; exact below_alloc w _
  have x0 : W0.cell? ⟨w.heap.size, 0, none⟩ = some (.slice a1 n1 c1) := by rw [hW0]; simp [go_sem]
  have x1 : W0.cell? ⟨w.heap.size, 1, none⟩ = some (.slice a2 n2 c2) := by rw [hW0]; simp [go_sem]
  have x2 : W0.cell? ⟨w.heap.size, 2, none⟩ = some (.slice a3 n3 c3) := by rw [hW0]; simp [go_sem]
  replace hLx := hLx.grown hB0
  replace hSw := hSw.grown hB0
  replace hA := hA.grown hB0
  replace hB2 := hB2.grown hB0
  replace hstd := hstd.grown hB0
  have HB := hid hB0
  clear hB0
  go_enter Tryz.func4, Tryz.ntmps4
  go_wp2_with fail
  rw [← hW0]
  clear hW0
  refine (thin_any l a1 a2 a3 sa n1 n2 n3 c1 c2 c3 sn sc W0 H1.out H2.out H3.out hLx).mono ?_
  rintro e w1 ⟨rfl, hb⟩
  replace HB := hid (below_then HB.out hb)
  replace x0 := cell_grown hb x0
  replace x1 := cell_grown hb x1
  replace x2 := cell_grown hb x2
  replace hLx := hLx.grown hb
  replace hSw := hSw.grown hb
  replace hA := hA.grown hb
  replace hB2 := hB2.grown hb
  replace hstd := hstd.grown hb
  clear hb
  cases ht : thinM l sn
  · clear ht
    go_wp2_with fail
    refine (awake_any w1 hstd).mono ?_
    rintro e wz ⟨rfl, hb⟩
    go_wp2
    go_ret
    exact ⟨rfl, below_then HB.out hb⟩
  have HT := hid (thin_ok ht).1
  have s25 := (thin_ok ht).2
  clear ht
  go_wp2_with fail
  refine (short_any A 90 n nc aa w1 HA.out HN1.out hA).mono ?_
  rintro e w2 ⟨rfl, hb⟩
  replace HB := hid (below_then HB.out hb)
  replace x0 := cell_grown hb x0
  replace x1 := cell_grown hb x1
  replace x2 := cell_grown hb x2
  replace hLx := hLx.grown hb
  replace hSw := hSw.grown hb
  replace hA := hA.grown hb
  replace hB2 := hB2.grown hb
  replace hstd := hstd.grown hb
  clear hb
  cases ht : shortM A 90
  · clear ht
    go_wp2_with fail
    refine (awake_any w2 hstd).mono ?_
    rintro e wz ⟨rfl, hb⟩
    go_wp2
    go_ret
    exact ⟨rfl, below_then HB.out hb⟩
  have HSA := hid (short_ok ht)
  clear ht
  go_wp2_with fail
  refine (short_any B 90 m mc ba w2 HB3.out HN2.out hB2).mono ?_
  rintro e w3 ⟨rfl, hb⟩
  replace HB := hid (below_then HB.out hb)
  replace x0 := cell_grown hb x0
  replace x1 := cell_grown hb x1
  replace x2 := cell_grown hb x2
  replace hLx := hLx.grown hb
  replace hSw := hSw.grown hb
  replace hA := hA.grown hb
  replace hB2 := hB2.grown hb
  replace hstd := hstd.grown hb
  clear hb
  cases ht : shortM B 90
  · clear ht
    go_wp2_with fail
    refine (awake_any w3 hstd).mono ?_
    rintro e wz ⟨rfl, hb⟩
    go_wp2
    go_ret
    exact ⟨rfl, below_then HB.out hb⟩
  have HSB := hid (short_ok ht)
  clear ht
  obtain ⟨q1, q2, q3⟩ := thin_sizes HT.out H1.out H2.out H3.out
  have qn : n ≤ 90 := by have := HSA.out.1; rw [HA.out] at this; omega
  have qm : m ≤ 90 := by have := HSB.out.1; rw [HB3.out] at this; omega
  go_wp2_with fail
  refine (lexicon_any l a1 a2 a3 n1 n2 n3 c1 c2 c3 w3 H1.out H2.out H3.out q1 q2 q3 (fun N hN => by have := HT.out.m2 N hN; omega) hLx).mono ?_
  rintro e w4 ⟨b1, b2, b3, d1, d2, d3, rfl, hl3, hb⟩
  replace HB := hid (below_then HB.out hb)
  replace x0 := cell_grown hb x0
  replace x1 := cell_grown hb x1
  replace x2 := cell_grown hb x2
  replace hLx := hLx.grown hb
  replace hSw := hSw.grown hb
  replace hA := hA.grown hb
  replace hB2 := hB2.grown hb
  replace hstd := hstd.grown hb
  clear hb
  go_wp2_with fail
  refine (swaps_any S sn sc sa w4 HS.out (by omega) hSw).mono ?_
  rintro e w5 ⟨ta, tc, rfl, hT5, hb⟩
  replace HB := hid (below_then HB.out hb)
  replace x0 := cell_grown hb x0
  replace x1 := cell_grown hb x1
  replace x2 := cell_grown hb x2
  replace hLx := hLx.grown hb
  replace hSw := hSw.grown hb
  replace hA := hA.grown hb
  replace hB2 := hB2.grown hb
  replace hstd := hstd.grown hb
  replace hl3 := hl3.grown hb
  clear hb
  go_wp2_with fail
  refine (copy_any A n nc aa w5 HA.out (by omega) hA).mono ?_
  rintro e w6 ⟨ra, rc, rfl, -, hA6, hb⟩
  replace HB := hid (below_then HB.out hb)
  replace x0 := cell_grown hb x0
  replace x1 := cell_grown hb x1
  replace x2 := cell_grown hb x2
  replace hLx := hLx.grown hb
  replace hSw := hSw.grown hb
  replace hA := hA.grown hb
  replace hB2 := hB2.grown hb
  replace hstd := hstd.grown hb
  replace hl3 := hl3.grown hb
  replace hT5 := hT5.grown hb
  clear hb
  go_wp2_with fail
  refine (copy_any B m mc ba w6 HB3.out (by omega) hB2).mono ?_
  rintro e w7 ⟨pa, pc, rfl, -, hB7, hb⟩
  replace HB := hid (below_then HB.out hb)
  replace x0 := cell_grown hb x0
  replace x1 := cell_grown hb x1
  replace x2 := cell_grown hb x2
  replace hLx := hLx.grown hb
  replace hSw := hSw.grown hb
  replace hA := hA.grown hb
  replace hB2 := hB2.grown hb
  replace hstd := hstd.grown hb
  replace hl3 := hl3.grown hb
  replace hT5 := hT5.grown hb
  replace hA6 := hA6.grown hb
  clear hb
  go_wp2_with fail
  refine (troubleF_any l b1 b2 b3 n1 n2 n3 d1 d2 d3 S ta sn tc A B n m rc pc ra pa w7 H1.out H2.out H3.out hl3 HS.out HN3.out hT5 HA.out HN1.out hA6 HB3.out HN2.out hB7 hstd).mono ?_
  rintro e w8 ⟨rfl, hb⟩
  replace HB := hid (below_then HB.out hb)
  replace x0 := cell_grown hb x0
  replace x1 := cell_grown hb x1
  replace x2 := cell_grown hb x2
  replace hLx := hLx.grown hb
  replace hSw := hSw.grown hb
  replace hA := hA.grown hb
  replace hB2 := hB2.grown hb
  replace hstd := hstd.grown hb
  clear hb
  clear hl3 hT5 hA6 hB7
  have hfault : ∀ W, LexAt W a1 a2 a3 l → SwapsAt W sa S → Calls Tryz.prog 28 #[.agg #[.slice a1 n1 c1, .slice a2 n2 c2, .slice a3 n3 c3], .slice sa sn sc] W fun e w' => e = .returned (.int .i64 (readErr l S)) ∧ Below W.heap.size W w' :=
    fun W g1 g2 => fault_any l a1 a2 a3 n1 n2 n3 c1 c2 c3 S sa sn sc W H1.out H2.out H3.out HT.out g1 HS.out (by omega) g2
  have hlA : ∀ W, Strs W aa A → Calls Tryz.prog 23 #[.slice aa n nc] W fun e w' => e = .returned (.int .i64 (listedM A)) ∧ Below W.heap.size W w' :=
    fun W g => listed_any A n nc aa W HA.out (by omega) g (fun t ht => by have := HSA.out.2 t ht; omega)
  have hlB : ∀ W, Strs W ba B → Calls Tryz.prog 23 #[.slice ba m mc] W fun e w' => e = .returned (.int .i64 (listedM B)) ∧ Below W.heap.size W w' :=
    fun W g => listed_any B m mc ba W HB3.out (by omega) g (fun t ht => by have := HSB.out.2 t ht; omega)
  obtain ⟨z, hz⟩ : ∃ z, troubleErr l S A B = z := ⟨_, rfl⟩
  obtain ⟨y, hy⟩ : ∃ z, troubleF l S A B = z := ⟨_, rfl⟩
  rw [hz, hy]
  have HY : Hid ((if z = 0 then troubleM S (senseM (entries l) A) (senseM (entries l) B) else 0) = y) := hid (by rw [← hy, troubleF, hz])
  obtain ⟨re, hre⟩ : ∃ z, readErr l S = z := ⟨_, rfl⟩
  rw [hre] at hfault
  have HZ : Hid ((if re = 0 then (if 80 < n ∨ 80 < m then 3 else if listedM A = 0 then listedM B else listedM A) else re) = z) := hid (by rw [← hz, troubleErr, hre, textsErr_two, HA.out, HB3.out])
  obtain ⟨la, hla⟩ : ∃ z, listedM A = z := ⟨_, rfl⟩
  obtain ⟨lb, hlb⟩ : ∃ z, listedM B = z := ⟨_, rfl⟩
  rw [hla, hlb] at HZ
  rw [hla] at hlA
  rw [hlb] at hlB
  clear hz hy hre hla hlb
  by_cases h0 : re = 0
  · subst h0
    have HZ2 : Hid ((if 80 < n ∨ 80 < m then 3 else if la = 0 then lb else la) = z) := hid (by rw [← HZ.out, if_pos rfl])
    clear HZ
    go_wp2_with fail
    refine (hfault w8 hLx hSw).mono ?_
    rintro e w9 ⟨rfl, hb⟩
    replace HB := hid (below_then HB.out hb)
    replace x0 := cell_grown hb x0
    replace x1 := cell_grown hb x1
    replace x2 := cell_grown hb x2
    replace hLx := hLx.grown hb
    replace hSw := hSw.grown hb
    replace hA := hA.grown hb
    replace hB2 := hB2.grown hb
    replace hstd := hstd.grown hb
    clear hb
    go_wp2_with fail
    refine (hlA w9 hA).mono ?_
    rintro e w10 ⟨rfl, hb⟩
    replace HB := hid (below_then HB.out hb)
    replace x0 := cell_grown hb x0
    replace x1 := cell_grown hb x1
    replace x2 := cell_grown hb x2
    replace hLx := hLx.grown hb
    replace hSw := hSw.grown hb
    replace hA := hA.grown hb
    replace hB2 := hB2.grown hb
    replace hstd := hstd.grown hb
    clear hb
    by_cases hla : la = 0
    · clear hlA
      subst hla
      go_wp2_with fail
      refine (hlB w10 hB2).mono ?_
      rintro e w11 ⟨rfl, hb⟩
      replace HB := hid (below_then HB.out hb)
      replace x0 := cell_grown hb x0
      replace x1 := cell_grown hb x1
      replace x2 := cell_grown hb x2
      replace hLx := hLx.grown hb
      replace hSw := hSw.grown hb
      replace hA := hA.grown hb
      replace hB2 := hB2.grown hb
      replace hstd := hstd.grown hb
      clear hb
      go_wp2_with fail
      refine (hfault w11 hLx hSw).mono ?_
      rintro e w12 ⟨rfl, hb⟩
      replace HB := hid (below_then HB.out hb)
      replace x0 := cell_grown hb x0
      replace x1 := cell_grown hb x1
      replace x2 := cell_grown hb x2
      replace hLx := hLx.grown hb
      replace hSw := hSw.grown hb
      replace hA := hA.grown hb
      replace hB2 := hB2.grown hb
      replace hstd := hstd.grown hb
      clear hb
      by_cases p1 : 80 < n
      · have p1' : (80 : Int) < (n : Int) := by omega
        have hz3 : z = 3 := by rw [← HZ2.out, if_pos (by omega)]
        have hy0 : y = 0 := by rw [← HY.out, hz3]; rfl
        subst hz3 hy0
        clear HY HZ2
        go_wp2_with fail
        refine (awake_any w12 hstd).mono ?_
        rintro e wz ⟨rfl, hb⟩
        go_wp2
        go_ret
        exact ⟨rfl, below_then HB.out hb⟩
      · have p1' : ¬ (80 : Int) < (n : Int) := by omega
        by_cases p2 : 80 < m
        · have p2' : (80 : Int) < (m : Int) := by omega
          have hz3 : z = 3 := by rw [← HZ2.out, if_pos (by omega)]
          have hy0 : y = 0 := by rw [← HY.out, hz3]; rfl
          subst hz3 hy0
          clear HY HZ2
          go_wp2_with fail
          refine (awake_any w12 hstd).mono ?_
          rintro e wz ⟨rfl, hb⟩
          go_wp2
          go_ret
          exact ⟨rfl, below_then HB.out hb⟩
        · have p2' : ¬ (80 : Int) < (m : Int) := by omega
          have hzl : z = lb := by rw [← HZ2.out, if_neg (by omega)]; simp
          subst hzl
          clear HZ2 p1 p2
          by_cases hz0 : z = 0
          · subst hz0
            have hyt : troubleM S (senseM (entries l) A) (senseM (entries l) B) = y := by rw [← HY.out, if_pos rfl]
            have HYT := hid hyt
            clear HY hyt
            have HSL1 : Hid ((senseM (entries l) A).length ≤ 100) := hid (by have h := List.length_filterMap_le (meansM (entries l)) A; rw [HA.out] at h; show (List.filterMap (meansM (entries l)) A).length ≤ 100; omega)
            have HSL2 : Hid ((senseM (entries l) B).length ≤ 100) := hid (by have h := List.length_filterMap_le (meansM (entries l)) B; rw [HB3.out] at h; show (List.filterMap (meansM (entries l)) B).length ≤ 100; omega)
            have hyy : (y == y) = true := by simp
            have hBd : Below w12.heap.size w12 w12.drew := (Below.refl _ _).drew
            clear hfault hlB
            go_wp2_with fail
            go_region_held3 (fun w' : World => w'.cell? ⟨w.heap.size, 0, none⟩ = some (.slice a1 n1 c1) ∧ w'.cell? ⟨w.heap.size, 1, none⟩ = some (.slice a2 n2 c2) ∧ w'.cell? ⟨w.heap.size, 2, none⟩ = some (.slice a3 n3 c3)) (exact ⟨x0, x1, x2⟩) (first | (go_at_call_has 25 aa; replace HB := hid (below_then HB.out hBd); replace x0 := cell_grown hBd x0; replace x1 := cell_grown hBd x1; replace x2 := cell_grown hBd x2; replace hLx := hLx.grown hBd; replace hSw := hSw.grown hBd; replace hA := hA.grown hBd; replace hB2 := hB2.grown hBd; replace hstd := hstd.grown hBd; refine (refSense_any l a1 a2 a3 n1 n2 n3 c1 c2 c3 A n nc aa _ H1.out H2.out H3.out hLx HA.out (by omega) hA (fun t ht => by have := HSA.out.2 t ht; omega)).mono ?_; rintro e w13 ⟨va, vc, rfl, hownA, hb13⟩; have hMA := marks_of_owns hownA; replace HB := hid (below_then HB.out hb13); replace x0 := cell_grown hb13 x0; replace x1 := cell_grown hb13 x1; replace x2 := cell_grown hb13 x2; replace hLx := hLx.grown hb13; replace hSw := hSw.grown hb13; replace hA := hA.grown hb13; replace hB2 := hB2.grown hb13; replace hstd := hstd.grown hb13) | (go_at_call_has 25 ba; refine (refSense_any l a1 a2 a3 n1 n2 n3 c1 c2 c3 B m mc ba _ H1.out H2.out H3.out hLx HB3.out (by omega) hB2 (fun t ht => by have := HSB.out.2 t ht; omega)).mono ?_; rintro e w14 ⟨vb, vd, rfl, hownB, hb14⟩; have hMB := marks_of_owns hownB; replace HB := hid (below_then HB.out hb14); replace x0 := cell_grown hb14 x0; replace x1 := cell_grown hb14 x1; replace x2 := cell_grown hb14 x2; replace hLx := hLx.grown hb14; replace hSw := hSw.grown hb14; replace hA := hA.grown hb14; replace hB2 := hB2.grown hb14; replace hstd := hstd.grown hb14; replace hMA := hMA.grown hb14) | (go_at_call 29; refine (refTrouble_any S sn sc sa (senseM (entries l) A) (senseM (entries l) B) _ _ vc vd va vb _ HS.out (by omega) hSw rfl HSL1.out hMA rfl HSL2.out hMB).mono ?_; rw [HYT.out]; rintro e w15 ⟨rfl, hb15⟩; replace HB := hid (below_then HB.out hb15); replace x0 := cell_grown hb15 x0; replace x1 := cell_grown hb15 x1; replace x2 := cell_grown hb15 x2; replace hLx := hLx.grown hb15; replace hSw := hSw.grown hb15; replace hA := hA.grown hb15; replace hB2 := hB2.grown hb15; replace hstd := hstd.grown hb15) | (go_at_call 17; refine (awake_any _ hstd).mono ?_; rintro e w16 ⟨rfl, hb16⟩; replace HB := hid (below_then HB.out hb16); replace x0 := cell_grown hb16 x0; replace x1 := cell_grown hb16 x1; replace x2 := cell_grown hb16 x2; replace hLx := hLx.grown hb16; replace hSw := hSw.grown hb16; replace hA := hA.grown hb16; replace hB2 := hB2.grown hb16; replace hstd := hstd.grown hb16))
            go_wp2
            go_ret
            exact ⟨rfl, HB.out⟩
          · have g0 : (z == 0) = false := by simpa using hz0
            have g1 : (z != 0) = true := by simpa using hz0
            have hy0 : y = 0 := by rw [← HY.out, if_neg hz0]
            subst hy0
            clear HY hz0
            go_wp2_with fail
            refine (awake_any w12 hstd).mono ?_
            rintro e wz ⟨rfl, hb⟩
            go_wp2
            go_ret
            exact ⟨rfl, below_then HB.out hb⟩
    · clear hlA
      have gl0 : (la == 0) = false := by simpa using hla
      go_wp2_with fail
      refine (hfault w10 hLx hSw).mono ?_
      rintro e w12 ⟨rfl, hb⟩
      replace HB := hid (below_then HB.out hb)
      replace x0 := cell_grown hb x0
      replace x1 := cell_grown hb x1
      replace x2 := cell_grown hb x2
      replace hLx := hLx.grown hb
      replace hSw := hSw.grown hb
      replace hA := hA.grown hb
      replace hB2 := hB2.grown hb
      replace hstd := hstd.grown hb
      clear hb
      by_cases p1 : 80 < n
      · have p1' : (80 : Int) < (n : Int) := by omega
        have hz3 : z = 3 := by rw [← HZ2.out, if_pos (by omega)]
        have hy0 : y = 0 := by rw [← HY.out, hz3]; rfl
        subst hz3 hy0
        clear HY HZ2
        go_wp2_with fail
        refine (awake_any w12 hstd).mono ?_
        rintro e wz ⟨rfl, hb⟩
        go_wp2
        go_ret
        exact ⟨rfl, below_then HB.out hb⟩
      · have p1' : ¬ (80 : Int) < (n : Int) := by omega
        by_cases p2 : 80 < m
        · have p2' : (80 : Int) < (m : Int) := by omega
          have hz3 : z = 3 := by rw [← HZ2.out, if_pos (by omega)]
          have hy0 : y = 0 := by rw [← HY.out, hz3]; rfl
          subst hz3 hy0
          clear HY HZ2
          go_wp2_with fail
          refine (awake_any w12 hstd).mono ?_
          rintro e wz ⟨rfl, hb⟩
          go_wp2
          go_ret
          exact ⟨rfl, below_then HB.out hb⟩
        · have p2' : ¬ (80 : Int) < (m : Int) := by omega
          have hzl : z = la := by rw [← HZ2.out, if_neg (by omega), if_neg hla]
          have hy0 : y = 0 := by rw [← HY.out, if_neg (by rw [hzl]; exact hla)]
          subst hzl hy0
          clear HZ2 HY p1 p2
          have g1 : (z != 0) = true := by simpa using hla
          clear hla
          go_wp2_with fail
          refine (awake_any w12 hstd).mono ?_
          rintro e wz ⟨rfl, hb⟩
          go_wp2
          go_ret
          exact ⟨rfl, below_then HB.out hb⟩
  · have hzr : z = re := by rw [← HZ.out, if_neg h0]
    have hy0 : y = 0 := by rw [← HY.out, if_neg (by rw [hzr]; exact h0)]
    subst hzr hy0
    have g0 : (z == 0) = false := by simpa using h0
    have g1 : (z != 0) = true := by simpa using h0
    clear HZ HY h0
    go_wp2_with fail
    refine (hfault w8 hLx hSw).mono ?_
    rintro e w9 ⟨rfl, hb⟩
    replace HB := hid (below_then HB.out hb)
    replace x0 := cell_grown hb x0
    replace x1 := cell_grown hb x1
    replace x2 := cell_grown hb x2
    replace hLx := hLx.grown hb
    replace hSw := hSw.grown hb
    replace hA := hA.grown hb
    replace hB2 := hB2.grown hb
    replace hstd := hstd.grown hb
    clear hb
    go_wp2_with fail
    refine (hfault w9 hLx hSw).mono ?_
    rintro e w10 ⟨rfl, hb⟩
    replace HB := hid (below_then HB.out hb)
    replace x0 := cell_grown hb x0
    replace x1 := cell_grown hb x1
    replace x2 := cell_grown hb x2
    replace hLx := hLx.grown hb
    replace hSw := hSw.grown hb
    replace hA := hA.grown hb
    replace hB2 := hB2.grown hb
    replace hstd := hstd.grown hb
    clear hb
    go_wp2_with fail
    refine (awake_any w10 hstd).mono ?_
    rintro e wz ⟨rfl, hb⟩
    go_wp2
    go_ret
    exact ⟨rfl, below_then HB.out hb⟩

end Go.Proofs.YtbampfkmgjfofaaGreatDoor
