/- Mend: the law MendSenses, walked. -/
import Derived.Test.YtbampfkmgjfofaaGreatDoorBT
import Derived.Test.YtbampfkmgjfofaaGreatDoorBW
namespace Go.Proofs.YtbampfkmgjfofaaGreatDoor
open Go.RowKit

theorem textsErr_one (L : List Tx) : textsErr [L] = listedM L := by
  unfold textsErr listedM
  by_cases h : L.length ≤ 80
  · have h' : ¬ 80 < L.length := by omega
    cases hx : L.all textOk <;> simp [h, h', hx]
  · have h' : 80 < L.length := by omega
    simp [h, h']

/-- What a thin lexicon is. -/
structure ThinOk (l : Lex) : Prop where
  n1 : l.nums.length ≤ 45
  n2 : l.names.length ≤ 45
  n3 : l.nots.length ≤ 45
  s1 : ∀ x ∈ l.nums, x.1.size ≤ 1000
  s2 : ∀ N ∈ l.names, ∀ t ∈ N, t.size ≤ 1000
  s3 : ∀ t ∈ l.nots, t.size ≤ 1000
  m2 : ∀ N ∈ l.names, N.length ≤ 8

theorem short_ok {L : List Tx} {most : Int} (h : shortM L most = true) : (L.length : Int) ≤ most ∧ ∀ t ∈ L, t.size ≤ 40 := by
  unfold shortM at h
  rw [Bool.and_eq_true, decide_eq_true_eq, List.all_eq_true] at h
  exact ⟨h.2, fun t ht => by simpa using h.1 t ht⟩

theorem thin_ok {l : Lex} {m : Nat} (h : thinM l m = true) : ThinOk l ∧ m ≤ 25 := by
  unfold thinM at h
  simp only [Bool.and_eq_true, decide_eq_true_eq, List.all_eq_true] at h
  obtain ⟨h1, h2, h3, h4, h5, h6⟩ := h
  have h5' := short_ok h5
  exact ⟨⟨h3, h4, by omega, fun x hx => by have := h1 x hx; omega, fun N hN t ht => by have := (short_ok (h2 N hN)).2 t ht; omega, fun t ht => by have := h5'.2 t ht; omega, fun N hN => by have := (short_ok (h2 N hN)).1; omega⟩, h6⟩

set_option maxRecDepth 100000 in
set_option maxHeartbeats 4000000 in
theorem mendSenses_any (l : Lex) (a1 a2 a3 : Option Addr) (n1 n2 n3 c1 c2 c3 : Nat) (L : List Tx) (n cap : Nat) (a : Option Addr) (w : World) (h1 : l.nums.length = n1) (h2 : l.names.length = n2) (h3 : l.nots.length = n3) (hLx : LexAt w a1 a2 a3 l)
    (hL : L.length = n) (hn : n ≤ maxLen) (hS : Strs w a L) (hstd : Std w) :
    Calls Tryz.prog 3 #[.agg #[.slice a1 n1 c1, .slice a2 n2 c2, .slice a3 n3 c3], .slice a n cap] w fun e w' => e = .returned (.bool true) ∧ Below w.heap.size w w' := by
  have H1 := hid h1; have H2 := hid h2; have H3 := hid h3; have HL := hid hL
  clear h1 h2 h3 hL
  have HN := hid hn
  clear hn
  obtain ⟨W0, hW0⟩ : ∃ W0, W0 = w.alloc (.cells #[.slice a1 n1 c1, .slice a2 n2 c2, .slice a3 n3 c3] 26) := ⟨_, rfl⟩
  have hB0 : Below w.heap.size w W0 := by rw [hW0]; exact below_alloc w _
  have x0 : W0.cell? ⟨w.heap.size, 0, none⟩ = some (.slice a1 n1 c1) := by rw [hW0]; simp [go_sem]
  have x1 : W0.cell? ⟨w.heap.size, 1, none⟩ = some (.slice a2 n2 c2) := by rw [hW0]; simp [go_sem]
  have x2 : W0.cell? ⟨w.heap.size, 2, none⟩ = some (.slice a3 n3 c3) := by rw [hW0]; simp [go_sem]
  replace hLx := hLx.grown hB0
  replace hS := hS.grown hB0
  replace hstd := hstd.grown hB0
  have HB := hid hB0
  clear hB0
  go_enter Tryz.func3, Tryz.ntmps3
  go_wp2_with fail
  rw [← hW0]
  clear hW0
  refine (thin_any l a1 a2 a3 none n1 n2 n3 c1 c2 c3 0 0 W0 H1.out H2.out H3.out hLx).mono ?_
  rintro e w1 ⟨rfl, hb⟩
  replace HB := hid (below_then HB.out hb)
  replace x0 := cell_grown hb x0
  replace x1 := cell_grown hb x1
  replace x2 := cell_grown hb x2
  replace hLx := hLx.grown hb
  replace hS := hS.grown hb
  replace hstd := hstd.grown hb
  clear hb
  cases ht : thinM l 0
  · clear ht
    go_wp2_with fail
    refine (awake_any w1 hstd).mono ?_
    rintro e w2 ⟨rfl, hb⟩
    go_wp2
    go_ret
    exact ⟨rfl, below_then HB.out hb⟩
  have HT := hid (thin_ok ht).1
  clear ht
  go_wp2_with fail
  refine (short_any L 90 n cap a w1 HL.out HN.out hS).mono ?_
  rintro e w2 ⟨rfl, hb⟩
  replace HB := hid (below_then HB.out hb)
  replace x0 := cell_grown hb x0
  replace x1 := cell_grown hb x1
  replace x2 := cell_grown hb x2
  replace hLx := hLx.grown hb
  replace hS := hS.grown hb
  replace hstd := hstd.grown hb
  clear hb
  cases ht : shortM L 90
  · clear ht
    go_wp2_with fail
    refine (awake_any w2 hstd).mono ?_
    rintro e w3 ⟨rfl, hb⟩
    go_wp2
    go_ret
    exact ⟨rfl, below_then HB.out hb⟩
  have HSH := hid (short_ok ht)
  clear ht
  go_wp2_with fail
  have q1 : n1 ≤ 1000 := by have := HT.out.n1; rw [H1.out] at this; omega
  have q2 : n2 ≤ 1000 := by have := HT.out.n2; rw [H2.out] at this; omega
  have q3 : n3 ≤ 1000 := by have := HT.out.n3; rw [H3.out] at this; omega
  have qn : n ≤ 90 := by have := HSH.out.1; rw [HL.out] at this; omega
  refine (lexicon_any l a1 a2 a3 n1 n2 n3 c1 c2 c3 w2 H1.out H2.out H3.out q1 q2 q3 (fun N hN => by have := HT.out.m2 N hN; omega) hLx).mono ?_
  rintro e w3 ⟨b1, b2, b3, d1, d2, d3, rfl, hl3, hb⟩
  replace HB := hid (below_then HB.out hb)
  replace x0 := cell_grown hb x0
  replace x1 := cell_grown hb x1
  replace x2 := cell_grown hb x2
  replace hLx := hLx.grown hb
  replace hS := hS.grown hb
  replace hstd := hstd.grown hb
  clear hb
  go_wp2_with fail
  refine (checkLexicon_any l b1 b2 b3 n1 n2 n3 d1 d2 d3 w3 H1.out H2.out H3.out hl3).mono ?_
  rintro e w4 ⟨rfl, hb⟩
  replace HB := hid (below_then HB.out hb)
  replace x0 := cell_grown hb x0
  replace x1 := cell_grown hb x1
  replace x2 := cell_grown hb x2
  replace hLx := hLx.grown hb
  replace hS := hS.grown hb
  replace hstd := hstd.grown hb
  clear hb
  clear hl3
  go_wp2_with fail
  refine (lexicon_any l a1 a2 a3 n1 n2 n3 c1 c2 c3 w4 H1.out H2.out H3.out q1 q2 q3 (fun N hN => by have := HT.out.m2 N hN; omega) hLx).mono ?_
  rintro e w5 ⟨b1, b2, b3, d1, d2, d3, rfl, hl3, hb⟩
  replace HB := hid (below_then HB.out hb)
  replace x0 := cell_grown hb x0
  replace x1 := cell_grown hb x1
  replace x2 := cell_grown hb x2
  replace hLx := hLx.grown hb
  replace hS := hS.grown hb
  replace hstd := hstd.grown hb
  clear hb
  go_wp2_with fail
  refine (copy_any L n cap a w5 HL.out (by omega) hS).mono ?_
  rintro e w6 ⟨ra, rc, rfl, -, hS6, hb⟩
  replace HB := hid (below_then HB.out hb)
  replace x0 := cell_grown hb x0
  replace x1 := cell_grown hb x1
  replace x2 := cell_grown hb x2
  replace hLx := hLx.grown hb
  replace hS := hS.grown hb
  replace hstd := hstd.grown hb
  replace hl3 := hl3.grown hb
  clear hb
  go_wp2_with fail
  refine (senseF_any l b1 b2 b3 n1 n2 n3 d1 d2 d3 L n rc ra w6 H1.out H2.out H3.out hl3 HL.out HN.out hS6 hstd).mono ?_
  rintro e w7 ⟨hb, he⟩
  replace HB := hid (below_then HB.out hb)
  replace x0 := cell_grown hb x0
  replace x1 := cell_grown hb x1
  replace x2 := cell_grown hb x2
  replace hLx := hLx.grown hb
  replace hS := hS.grown hb
  replace hstd := hstd.grown hb
  clear hb
  clear hl3 hS6
  have hfault := lexFault_any l a1 a2 a3 n1 n2 n3 c1 c2 c3 w7 H1.out H2.out H3.out q1 q2 q3 HT.out.m2 HT.out.s1 HT.out.s2 HT.out.s3 hLx
  by_cases h0 : senseErr l L = 0
  · rw [if_pos h0] at he
    obtain ⟨ma, mc, rfl, hown⟩ := he
    have hle : lexErr l = 0 := by
      unfold senseErr at h0
      split at h0
      · assumption
      · exact absurd h0 ‹_›
    have hli : listedM L = 0 := by rw [senseErr, if_pos hle, textsErr_one] at h0; exact h0
    rw [hle] at hfault ⊢
    have HLE := hid hle
    have HLI := hid hli
    clear h0 hle hli
    generalize hA : senseM (entries l) L = A at hown
    have HA := hid hA
    clear hA
    have HM := hid (marks_of_owns hown)
    clear hown
    go_wp2_with fail
    refine hfault.mono ?_
    rintro e w8 ⟨rfl, hb⟩
    replace HM := hid (HM.out.grown hb)
    replace HB := hid (below_then HB.out hb)
    replace x0 := cell_grown hb x0
    replace x1 := cell_grown hb x1
    replace x2 := cell_grown hb x2
    replace hLx := hLx.grown hb
    replace hS := hS.grown hb
    replace hstd := hstd.grown hb
    clear hb
    clear hfault
    have hlisted := listed_any L n cap a w8 HL.out (by omega) hS (fun t ht => by have := HSH.out.2 t ht; omega)
    rw [HLI.out] at hlisted
    go_wp2_with fail
    refine hlisted.mono ?_
    rintro e w9 ⟨rfl, hb⟩
    replace HM := hid (HM.out.grown hb)
    replace HB := hid (below_then HB.out hb)
    replace x0 := cell_grown hb x0
    replace x1 := cell_grown hb x1
    replace x2 := cell_grown hb x2
    replace hLx := hLx.grown hb
    replace hS := hS.grown hb
    replace hstd := hstd.grown hb
    clear hb
    clear hlisted
    go_wp2_with fail
    refine (refSense_any l a1 a2 a3 n1 n2 n3 c1 c2 c3 L n cap a w9 H1.out H2.out H3.out hLx HL.out (by omega) hS (fun t ht => by have := HSH.out.2 t ht; omega)).mono ?_
    rw [HA.out]
    rintro e w10 ⟨va, vc, rfl, hown, hb⟩
    have HM2 := hid (marks_of_owns hown)
    replace HM := hid (HM.out.grown hb)
    replace HB := hid (below_then HB.out hb)
    replace x0 := cell_grown hb x0
    replace x1 := cell_grown hb x1
    replace x2 := cell_grown hb x2
    replace hLx := hLx.grown hb
    replace hS := hS.grown hb
    replace hstd := hstd.grown hb
    clear hb
    clear hown
    have hk : A.length ≤ 1000 := by
      rw [← HA.out]
      have h := List.length_filterMap_le (meansM (entries l)) L
      rw [HL.out] at h
      show (List.filterMap (meansM (entries l)) L).length ≤ 1000
      omega
    obtain ⟨ka, hka⟩ : ∃ k, A.length = k := ⟨_, rfl⟩
    rw [hka] at hk ⊢
    have HKA := hid hka
    clear hka
    have hmarks := marks_any A A ka ka mc vc ma va w10 hk HKA.out HKA.out HM.out HM2.out
    rw [decide_eq_true rfl] at hmarks
    go_wp2_with fail
    refine hmarks.mono ?_
    rintro e w11 ⟨rfl, hb⟩
    replace HB := hid (below_then HB.out hb)
    replace x0 := cell_grown hb x0
    replace x1 := cell_grown hb x1
    replace x2 := cell_grown hb x2
    replace hLx := hLx.grown hb
    replace hS := hS.grown hb
    replace hstd := hstd.grown hb
    clear hb
    clear hmarks
    go_wp2_with fail
    refine (awake_any w11 hstd).mono ?_
    rintro e w12 ⟨rfl, hb⟩
    go_wp2
    go_ret
    exact ⟨rfl, below_then HB.out hb⟩
  · rw [if_neg h0] at he
    subst he
    obtain ⟨z, hz⟩ : ∃ z, senseErr l L = z := ⟨_, rfl⟩
    rw [hz] at h0 ⊢
    have g0 : (z == 0) = false := by simpa using h0
    have g1 : (z != 0) = true := by simpa using h0
    have HZ0 := hid h0
    clear h0
    by_cases hle : lexErr l = 0
    · have hli : listedM L = z := by rw [senseErr, if_pos hle, textsErr_one] at hz; exact hz
      rw [hle] at hfault ⊢
      have HLI := hid hli
      clear hli hle hz
      go_wp2_with fail
      refine hfault.mono ?_
      rintro e w8 ⟨rfl, hb⟩
      replace HB := hid (below_then HB.out hb)
      replace x0 := cell_grown hb x0
      replace x1 := cell_grown hb x1
      replace x2 := cell_grown hb x2
      replace hLx := hLx.grown hb
      replace hS := hS.grown hb
      replace hstd := hstd.grown hb
      clear hb
      clear hfault
      have hlisted := listed_any L n cap a w8 HL.out (by omega) hS (fun t ht => by have := HSH.out.2 t ht; omega)
      rw [HLI.out] at hlisted
      go_wp2_with fail
      refine hlisted.mono ?_
      rintro e w9 ⟨rfl, hb⟩
      replace HB := hid (below_then HB.out hb)
      replace x0 := cell_grown hb x0
      replace x1 := cell_grown hb x1
      replace x2 := cell_grown hb x2
      replace hLx := hLx.grown hb
      replace hS := hS.grown hb
      replace hstd := hstd.grown hb
      clear hb
      clear hlisted
      go_wp2_with fail
      refine (awake_any w9 hstd).mono ?_
      rintro e w12 ⟨rfl, hb⟩
      go_wp2
      go_ret
      exact ⟨rfl, below_then HB.out hb⟩
    · have hlz : lexErr l = z := by rw [senseErr, if_neg hle] at hz; exact hz
      rw [hlz] at hfault ⊢
      clear hlz hle hz
      go_wp2_with fail
      refine hfault.mono ?_
      rintro e w8 ⟨rfl, hb⟩
      replace HB := hid (below_then HB.out hb)
      replace x0 := cell_grown hb x0
      replace x1 := cell_grown hb x1
      replace x2 := cell_grown hb x2
      replace hLx := hLx.grown hb
      replace hS := hS.grown hb
      replace hstd := hstd.grown hb
      clear hb
      clear hfault
      go_wp2_with fail
      refine (awake_any w8 hstd).mono ?_
      rintro e w12 ⟨rfl, hb⟩
      go_wp2
      go_ret
      exact ⟨rfl, below_then HB.out hb⟩

end Go.Proofs.YtbampfkmgjfofaaGreatDoor
