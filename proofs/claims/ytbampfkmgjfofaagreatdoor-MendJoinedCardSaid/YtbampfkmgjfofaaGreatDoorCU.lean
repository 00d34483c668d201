/- Mend: the law MendJoined, walked. -/
import Derived.Test.YtbampfkmgjfofaaGreatDoorCD
import Derived.Test.YtbampfkmgjfofaaGreatDoorCT
import Derived.Test.YtbampfkmgjfofaaGreatDoorCV
import Derived.Deep.RegionHeld3
import Derived.IntWalk
import Derived.Deep.QuietTactic
import Derived.BigQuiet
namespace Go.Proofs.YtbampfkmgjfofaaGreatDoor
open Go.RowKit

/-- The one list, or the other one. -/
def selL (A B : List Tx) (k : Nat) : List Tx := if k = 0 then A else B

/-- The lists of texts that say nothing, as far as they are done. -/
structure PlainAt (E : List Ent) (A B : List Tx) (pb k : Nat) (V : Nat → Value) (wr : World) : Prop where
  done : ∀ i, i < k → ∃ ra rc, V i = .slice ra (muteM E (selL A B i)).length rc ∧ Strs wr ra (muteM E (selL A B i)) ∧ ∀ b o x, ra = some ⟨b, o, x⟩ → b ≠ pb
  left : ∀ i, k ≤ i → V i = .slice none 0 0

theorem PlainAt.but {E : List Ent} {A B : List Tx} {pb k : Nat} {V : Nat → Value} {wr wr' : World} (h : PlainAt E A B pb k V wr) (hb : But1 pb wr wr') : PlainAt E A B pb k V wr' :=
  ⟨fun i hi => by
    obtain ⟨ra, rc, hv, hs, hn⟩ := h.done i hi
    refine ⟨ra, rc, hv, fun j hj => ?_, hn⟩
    obtain ⟨b, off, ha, hc⟩ := hs j hj
    exact ⟨b, off, ha, hb.cell (hn b off none ha) hc⟩, h.left⟩

theorem PlainAt.next {E : List Ent} {A B : List Tx} {pb k base : Nat} {V : Nat → Value} {wr : World} {v : Value} {X : List Tx} (h : PlainAt E A B pb k V wr) (hX : selL A B k = X) (hv : wr.ownsRow base 9 1 v (muteM E X).length (flatV strC (muteM E X))) (hb : pb < base) :
    PlainAt E A B pb (k + 1) (fun i => if i = k then v else V i) wr := by
  refine ⟨fun i hi => ?_, fun i hi => ?_⟩
  · by_cases e : i = k
    · subst e
      rw [hX]
      obtain ⟨ra, rc, rfl⟩ := owns_shape hv
      refine ⟨ra, rc, by rw [if_pos rfl], strs_of_ownsN hv rfl, fun b o x ha => ?_⟩
      have := (hv.lt b (by rw [ha]; rfl)).1
      omega
    · obtain ⟨ra, rc, h1, h2, h3⟩ := h.done i (by omega)
      exact ⟨ra, rc, by rw [if_neg e]; exact h1, h2, h3⟩
  · rw [if_neg (by omega)]
    exact h.left i (by omega)

theorem But1.trans {ob : Nat} {A B C : World} (h : But1 ob A B) (k : But1 ob B C) : But1 ob A C :=
  ⟨k.os.trans h.os, k.tape.trans h.tape, k.output.trans h.output, Nat.le_trans h.size k.size, fun j hj hne => (k.keep j (Nat.lt_of_lt_of_le hj h.size) hne).trans (h.keep j hj hne)⟩

theorem strs_lone (w : World) (t : Tx) (T : TypeId) : Strs (w.alloc (.cells #[.string t] T)) (some ⟨w.heap.size, 0, none⟩) [t] := by
  intro i hi
  have hi0 : i = 0 := by simpa using hi
  subst hi0
  exact ⟨w.heap.size, 0, rfl, by simp [go_sem]⟩

set_option linter.unusedSimpArgs false in
set_option maxRecDepth 100000 in
set_option maxHeartbeats 20000000 in
theorem mendJoined_any (l : Lex) (a1 a2 a3 : Option Addr) (n1 n2 n3 c1 c2 c3 : Nat) (A : List Tx) (n nc : Nat) (aa : Option Addr) (B : List Tx) (m mc : Nat) (ba : Option Addr) (w : World)
    (h1 : l.nums.length = n1) (h2 : l.names.length = n2) (h3 : l.nots.length = n3) (hLx : LexAt w a1 a2 a3 l) (hAl : A.length = n) (hn : n ≤ maxLen) (hA : Strs w aa A) (hBl : B.length = m) (hm : m ≤ maxLen) (hB2 : Strs w ba B) (hstd : Std w) :
    Calls Tryz.prog 14 #[.agg #[.slice a1 n1 c1, .slice a2 n2 c2, .slice a3 n3 c3], .slice aa n nc, .slice ba m mc] w fun e w' => e = .returned (.bool true) ∧ Below w.heap.size w w' := by
  have H1 := hid h1; have H2 := hid h2; have H3 := hid h3; have HA := hid hAl; have HB3 := hid hBl; have HN1 := hid hn; have HN2 := hid hm
  clear h1 h2 h3 hAl hBl hn hm
  obtain ⟨i0, hi, hz0, hz1, hz2⟩ := info_parts Tryz.info9
  obtain ⟨i5, hj5, hy0, hy1, hy2⟩ := info_parts Tryz.info95
  obtain ⟨W0, hW0⟩ : ∃ W0, W0 = w.alloc (.cells #[.slice a1 n1 c1, .slice a2 n2 c2, .slice a3 n3 c3] 26) := ⟨_, rfl⟩
  have hB0 : Below w.heap.size w W0 := by rw [hW0]; exact below_alloc w _
  have x0 : W0.cell? ⟨w.heap.size, 0, none⟩ = some (.slice a1 n1 c1) := by rw [hW0]; simp [go_sem]
  have x1 : W0.cell? ⟨w.heap.size, 1, none⟩ = some (.slice a2 n2 c2) := by rw [hW0]; simp [go_sem]
  have x2 : W0.cell? ⟨w.heap.size, 2, none⟩ = some (.slice a3 n3 c3) := by rw [hW0]; simp [go_sem]
  replace hLx := hLx.grown hB0
  replace hA := hA.grown hB0
  replace hB2 := hB2.grown hB0
  replace hstd := hstd.grown hB0
  have HB := hid hB0
  clear hB0
  go_enter Tryz.func14, Tryz.ntmps14
  go_wp2_with fail
  rw [← hW0]
  clear hW0
  refine (thin_any l a1 a2 a3 none n1 n2 n3 c1 c2 c3 0 0 W0 H1.out H2.out H3.out hLx).mono ?_
  rintro e w1 ⟨rfl, hb⟩
  replace HB := hid (below_then HB.out hb)
  replace x0 := cell_grown hb x0
  replace x1 := cell_grown hb x1
  replace x2 := cell_grown hb x2
  replace hLx := hLx.grown hb
  replace hA := hA.grown hb
  replace hB2 := hB2.grown hb
  replace hstd := hstd.grown hb
  clear hb
  cases ht : thinM l 0
  · clear ht
    go_wp2_with fail
    refine (awake_any _ hstd).mono ?_
    rintro e wz ⟨rfl, hb⟩
    go_wp2
    go_ret
    exact ⟨rfl, below_then HB.out hb⟩
  have HT := hid (thin_ok ht).1
  clear ht
  obtain ⟨q1, q2, q3⟩ := thin_sizes HT.out H1.out H2.out H3.out
  go_wp2_with fail
  refine (lexFault_any l a1 a2 a3 n1 n2 n3 c1 c2 c3 _ H1.out H2.out H3.out q1 q2 q3 HT.out.m2 HT.out.s1 HT.out.s2 HT.out.s3 hLx).mono ?_
  rintro e w2 ⟨rfl, hb⟩
  replace HB := hid (below_then HB.out hb)
  replace x0 := cell_grown hb x0
  replace x1 := cell_grown hb x1
  replace x2 := cell_grown hb x2
  replace hLx := hLx.grown hb
  replace hA := hA.grown hb
  replace hB2 := hB2.grown hb
  replace hstd := hstd.grown hb
  clear hb
  obtain ⟨le, hle⟩ : ∃ z, lexErr l = z := ⟨_, rfl⟩
  rw [hle]
  by_cases hl0 : le = 0
  case neg =>
    have g : (le != 0) = true := by simpa using hl0
    go_wp2_with fail
    refine (awake_any _ hstd).mono ?_
    rintro e wz ⟨rfl, hb⟩
    go_wp2
    go_ret
    exact ⟨rfl, below_then HB.out hb⟩
  subst hl0
  have HLE := hid hle
  clear hle
  go_wp2_with fail
  refine (short_any A 40 n nc aa _ HA.out HN1.out hA).mono ?_
  rintro e w3 ⟨rfl, hb⟩
  replace HB := hid (below_then HB.out hb)
  replace x0 := cell_grown hb x0
  replace x1 := cell_grown hb x1
  replace x2 := cell_grown hb x2
  replace hLx := hLx.grown hb
  replace hA := hA.grown hb
  replace hB2 := hB2.grown hb
  replace hstd := hstd.grown hb
  clear hb
  cases hs1 : shortM A 40
  · clear hs1
    go_wp2_with fail
    refine (awake_any _ hstd).mono ?_
    rintro e wz ⟨rfl, hb⟩
    go_wp2
    go_ret
    exact ⟨rfl, below_then HB.out hb⟩
  go_wp2_with fail
  refine (short_any B 40 m mc ba _ HB3.out HN2.out hB2).mono ?_
  rintro e w4 ⟨rfl, hb⟩
  replace HB := hid (below_then HB.out hb)
  replace x0 := cell_grown hb x0
  replace x1 := cell_grown hb x1
  replace x2 := cell_grown hb x2
  replace hLx := hLx.grown hb
  replace hA := hA.grown hb
  replace hB2 := hB2.grown hb
  replace hstd := hstd.grown hb
  clear hb
  cases hs2 : shortM B 40
  · clear hs2
    go_wp2_with fail
    refine (awake_any _ hstd).mono ?_
    rintro e wz ⟨rfl, hb⟩
    go_wp2
    go_ret
    exact ⟨rfl, below_then HB.out hb⟩
  have hA40 : n ≤ 40 := by have := (short_ok hs1).1; rw [HA.out] at this; omega
  have hB40 : m ≤ 40 := by have := (short_ok hs2).1; rw [HB3.out] at this; omega
  have HSA := hid (short_ok hs1).2
  have HSB := hid (short_ok hs2).2
  clear hs1 hs2
  go_wp2_with fail
  refine (listed_any A n nc aa _ HA.out (by omega) hA (fun t ht => by have := HSA.out t ht; omega)).mono ?_
  rintro e w5 ⟨rfl, hb⟩
  replace HB := hid (below_then HB.out hb)
  replace x0 := cell_grown hb x0
  replace x1 := cell_grown hb x1
  replace x2 := cell_grown hb x2
  replace hLx := hLx.grown hb
  replace hA := hA.grown hb
  replace hB2 := hB2.grown hb
  replace hstd := hstd.grown hb
  clear hb
  obtain ⟨la, hla⟩ : ∃ z, listedM A = z := ⟨_, rfl⟩
  rw [hla]
  by_cases hl0 : la = 0
  case neg =>
    have g : (la != 0) = true := by simpa using hl0
    go_wp2_with fail
    refine (awake_any _ hstd).mono ?_
    rintro e wz ⟨rfl, hb⟩
    go_wp2
    go_ret
    exact ⟨rfl, below_then HB.out hb⟩
  subst hl0
  go_wp2_with fail
  refine (listed_any B m mc ba _ HB3.out (by omega) hB2 (fun t ht => by have := HSB.out t ht; omega)).mono ?_
  rintro e w6 ⟨rfl, hb⟩
  replace HB := hid (below_then HB.out hb)
  replace x0 := cell_grown hb x0
  replace x1 := cell_grown hb x1
  replace x2 := cell_grown hb x2
  replace hLx := hLx.grown hb
  replace hA := hA.grown hb
  replace hB2 := hB2.grown hb
  replace hstd := hstd.grown hb
  clear hb
  obtain ⟨lb, hlb⟩ : ∃ z, listedM B = z := ⟨_, rfl⟩
  rw [hlb]
  by_cases hl0 : lb = 0
  case neg =>
    have g : (lb != 0) = true := by simpa using hl0
    go_wp2_with fail
    refine (awake_any _ hstd).mono ?_
    rintro e wz ⟨rfl, hb⟩
    go_wp2
    go_ret
    exact ⟨rfl, below_then HB.out hb⟩
  subst hl0
  have HOA := hid (listed_ok hla).2
  have HOB := hid (listed_ok hlb).2
  clear hla hlb
  have HE1 : Hid (senseErr l A = 0) := hid (sense_fine HLE.out (by rw [HA.out]; omega) HOA.out)
  have HE2 : Hid (senseErr l B = 0) := hid (sense_fine HLE.out (by rw [HB3.out]; omega) HOB.out)
  have HE3 : Hid (senseErr l (A ++ B) = 0) := hid (sense_two HLE.out (by rw [HA.out]; omega) HOA.out (by rw [HB3.out]; omega) HOB.out)
  go_wp2_with fail
  refine (lexicon_any l a1 a2 a3 n1 n2 n3 c1 c2 c3 _ H1.out H2.out H3.out q1 q2 q3 (fun N hN => by have := HT.out.m2 N hN; omega) hLx).mono ?_
  rintro e wa1 ⟨b1, b2, b3, d1, d2, d3, rfl, hl3, hb⟩
  replace HB := hid (below_then HB.out hb)
  replace x0 := cell_grown hb x0
  replace x1 := cell_grown hb x1
  replace x2 := cell_grown hb x2
  replace hLx := hLx.grown hb
  replace hA := hA.grown hb
  replace hB2 := hB2.grown hb
  replace hstd := hstd.grown hb
  clear hb
  go_wp2_with fail
  refine (copy_any A n nc aa _ HA.out (by omega) hA).mono ?_
  rintro e wb1 ⟨ra1, rc1, rfl, hown, hS, hb⟩
  replace HB := hid (below_then HB.out hb)
  replace x0 := cell_grown hb x0
  replace x1 := cell_grown hb x1
  replace x2 := cell_grown hb x2
  replace hLx := hLx.grown hb
  replace hA := hA.grown hb
  replace hB2 := hB2.grown hb
  replace hstd := hstd.grown hb
  replace hl3 := hl3.grown hb
  clear hb
  clear hown
  go_wp2_with fail
  refine (senseF_any l b1 b2 b3 n1 n2 n3 d1 d2 d3 A n rc1 ra1 _ H1.out H2.out H3.out hl3 HA.out (by unfold maxLen; omega) hS hstd).mono ?_
  rintro e wc1 ⟨hb, he⟩
  rw [if_pos HE1.out] at he
  obtain ⟨va1, vc1, rfl, hown⟩ := he
  have hM1 := marks_of_owns hown
  replace HB := hid (below_then HB.out hb)
  replace x0 := cell_grown hb x0
  replace x1 := cell_grown hb x1
  replace x2 := cell_grown hb x2
  replace hLx := hLx.grown hb
  replace hA := hA.grown hb
  replace hB2 := hB2.grown hb
  replace hstd := hstd.grown hb
  clear hb
  clear hown hS hl3
  go_wp2_with fail
  refine (lexicon_any l a1 a2 a3 n1 n2 n3 c1 c2 c3 _ H1.out H2.out H3.out q1 q2 q3 (fun N hN => by have := HT.out.m2 N hN; omega) hLx).mono ?_
  rintro e wa2 ⟨b1, b2, b3, d1, d2, d3, rfl, hl3, hb⟩
  replace HB := hid (below_then HB.out hb)
  replace x0 := cell_grown hb x0
  replace x1 := cell_grown hb x1
  replace x2 := cell_grown hb x2
  replace hLx := hLx.grown hb
  replace hA := hA.grown hb
  replace hB2 := hB2.grown hb
  replace hstd := hstd.grown hb
  replace hM1 := hM1.grown hb
  clear hb
  go_wp2_with fail
  refine (copy_any B m mc ba _ HB3.out (by omega) hB2).mono ?_
  rintro e wb2 ⟨ra2, rc2, rfl, hown, hS, hb⟩
  replace HB := hid (below_then HB.out hb)
  replace x0 := cell_grown hb x0
  replace x1 := cell_grown hb x1
  replace x2 := cell_grown hb x2
  replace hLx := hLx.grown hb
  replace hA := hA.grown hb
  replace hB2 := hB2.grown hb
  replace hstd := hstd.grown hb
  replace hM1 := hM1.grown hb
  replace hl3 := hl3.grown hb
  clear hb
  clear hown
  go_wp2_with fail
  refine (senseF_any l b1 b2 b3 n1 n2 n3 d1 d2 d3 B m rc2 ra2 _ H1.out H2.out H3.out hl3 HB3.out (by unfold maxLen; omega) hS hstd).mono ?_
  rintro e wc2 ⟨hb, he⟩
  rw [if_pos HE2.out] at he
  obtain ⟨va2, vc2, rfl, hown⟩ := he
  have hM2 := marks_of_owns hown
  replace HB := hid (below_then HB.out hb)
  replace x0 := cell_grown hb x0
  replace x1 := cell_grown hb x1
  replace x2 := cell_grown hb x2
  replace hLx := hLx.grown hb
  replace hA := hA.grown hb
  replace hB2 := hB2.grown hb
  replace hstd := hstd.grown hb
  replace hM1 := hM1.grown hb
  clear hb
  clear hown hS hl3
  go_wp2_with fail
  refine (lexicon_any l a1 a2 a3 n1 n2 n3 c1 c2 c3 _ H1.out H2.out H3.out q1 q2 q3 (fun N hN => by have := HT.out.m2 N hN; omega) hLx).mono ?_
  rintro e wa3 ⟨b1, b2, b3, d1, d2, d3, rfl, hl3, hb⟩
  replace HB := hid (below_then HB.out hb)
  replace x0 := cell_grown hb x0
  replace x1 := cell_grown hb x1
  replace x2 := cell_grown hb x2
  replace hLx := hLx.grown hb
  replace hA := hA.grown hb
  replace hB2 := hB2.grown hb
  replace hstd := hstd.grown hb
  replace hM1 := hM1.grown hb
  replace hM2 := hM2.grown hb
  clear hb
  go_wp2_with fail
  refine (copy_any A n nc aa _ HA.out (by omega) hA).mono ?_
  rintro e wb3 ⟨ra3, rc3, rfl, hown, -, hb⟩
  have hbb := hb
  have hzb := hb.size
  have hB3 := hB2.grown hb
  clear hb
  go_wp2_with (at_builtin; refine wpList_append_strs rfl _ _ 24 rfl wa3.heap.size i0 Tryz.underlying24 hi hz0 hz1 hz2 _ n _ rfl hown ba m mc B rfl HB3.out hB3 (by omega) hzb ?_; intro v' w7 hown' hg5; have hb := Below.grown hbb hg5 hzb (fun j hj => (hown.lt j hj).1); obtain ⟨ra4, rc4, rfl⟩ := owns_shape hown'; rw [← flatV_append] at hown'; have hS := strs_of_ownsN hown' (by rw [List.length_append, HA.out, HB3.out]); clear hg5 hown' hbb hzb hB3)
  replace HB := hid (below_then HB.out hb)
  replace x0 := cell_grown hb x0
  replace x1 := cell_grown hb x1
  replace x2 := cell_grown hb x2
  replace hLx := hLx.grown hb
  replace hA := hA.grown hb
  replace hB2 := hB2.grown hb
  replace hstd := hstd.grown hb
  replace hM1 := hM1.grown hb
  replace hM2 := hM2.grown hb
  replace hl3 := hl3.grown hb
  clear hb
  clear hown
  refine (senseF_any l b1 b2 b3 n1 n2 n3 d1 d2 d3 (A ++ B) (n + m) rc4 ra4 _ H1.out H2.out H3.out hl3 (by rw [List.length_append, HA.out, HB3.out]) (by unfold maxLen; omega) hS hstd).mono ?_
  rintro e wc3 ⟨hb, he⟩
  rw [if_pos HE3.out] at he
  obtain ⟨va3, vc3, rfl, hown⟩ := he
  rw [senseM_append] at hown ⊢
  have hM3 := marks_of_owns hown
  replace HB := hid (below_then HB.out hb)
  replace x0 := cell_grown hb x0
  replace x1 := cell_grown hb x1
  replace x2 := cell_grown hb x2
  replace hLx := hLx.grown hb
  replace hA := hA.grown hb
  replace hB2 := hB2.grown hb
  replace hstd := hstd.grown hb
  replace hM1 := hM1.grown hb
  replace hM2 := hM2.grown hb
  clear hb
  clear hown hS hl3
  obtain ⟨MA, hMA⟩ : ∃ M, senseM (entries l) A = M := ⟨_, rfl⟩
  obtain ⟨MB, hMB⟩ : ∃ M, senseM (entries l) B = M := ⟨_, rfl⟩
  rw [hMA, hMB] at hM3 ⊢
  rw [hMA] at hM1
  rw [hMB] at hM2
  obtain ⟨na, hna⟩ : ∃ k, MA.length = k := ⟨_, rfl⟩
  obtain ⟨nb, hnb⟩ : ∃ k, MB.length = k := ⟨_, rfl⟩
  obtain ⟨nn, hnn⟩ : ∃ k, na + nb = k := ⟨_, rfl⟩
  have hl : (MA ++ MB).length = nn := by rw [List.length_append, hna, hnb, hnn]
  have hna40 : na ≤ 40 := by rw [← hna, ← hMA]; have := senseM_length (entries l) A; rw [HA.out] at this; omega
  have hnb40 : nb ≤ 40 := by rw [← hnb, ← hMB]; have := senseM_length (entries l) B; rw [HB3.out] at this; omega
  rw [hl, hna, hnb]
  have HMA := hid hMA
  have HMB := hid hMB
  have HNA := hid hna
  have HNB := hid hnb
  have HNL := hid hl
  clear hMA hMB hna hnb hl HE1 HE2 HE3
  have gsum : ((nn : Int) != (na : Int) + (nb : Int)) = false := by simp; omega
  have hnn80 : nn ≤ 80 := by omega
  obtain ⟨Wc, hWc⟩ : ∃ W, W = wc3 := ⟨_, rfl⟩
  rw [← hWc] at x0 x1 x2 hLx hA hB2 hstd hM1 hM2 hM3 HB ⊢
  clear hWc
  go_wp2_with (at_builtin; first
    | (refine wpList_append_marks rfl _ _ 36 rfl Wc.heap.size i5 Tryz.underlying36 hj5 hy0 hy1 hy2 (.slice none 0 0) 0 _ rfl (World.ownsRow_nil _ _ _ _) va1 na vc1 MA rfl HNA.out hM1 (by omega) (Nat.le_refl _) ?_; intro v8 w8 hown8 hg8; have hb8 : Below Wc.heap.size Wc w8 := Below.grown (Below.refl _ _) hg8 (Nat.le_refl _) (fun j hj => by simp [Value.ownBlock] at hj); have hM28 := hM2.grown hb8; have hz8 := hb8.size)
    | (refine wpList_append_marks rfl _ _ 36 rfl Wc.heap.size i5 Tryz.underlying36 hj5 hy0 hy1 hy2 _ (0 + na) _ rfl hown8 va2 nb vc2 MB rfl HNB.out hM28 (by omega) hz8 ?_; intro v9 w9 hown9 hg9; have hb9 := Below.grown hb8 hg9 hz8 (fun j hj => (hown8.lt j hj).1); rw [show 0 + na + nb = nn by omega] at hown9; obtain ⟨r9, rc9, rfl⟩ := owns_shape hown9))
  have hM9 : Marks w9 r9 (MA ++ MB) := marks_of_owns (base := Wc.heap.size) (e := 95) (cap := rc9) (by rw [HNL.out, flatV_append]; simpa using hown9)
  replace HB := hid (below_then HB.out hb9)
  replace x0 := cell_grown hb9 x0
  replace x1 := cell_grown hb9 x1
  replace x2 := cell_grown hb9 x2
  replace hLx := hLx.grown hb9
  replace hA := hA.grown hb9
  replace hB2 := hB2.grown hb9
  replace hstd := hstd.grown hb9
  replace hM3 := hM3.grown hb9
  clear hM1 hM2 hM28 hz8 hb8 hb9 hown8 hown9 hg8 hg9 gsum HMA HMB HNA HNB
  obtain ⟨Wd, hWd⟩ : ∃ W, W = w9 := ⟨_, rfl⟩
  rw [← hWd] at x0 x1 x2 hLx hA hB2 hstd hM3 hM9 HB ⊢
  clear hWd
  go_loopw [14] (fun i wr => ∃ k : Nat, k ≤ nn ∧ i = .int .i64 k ∧ Below Wd.heap.size Wd wr) (fun i _ => nn - (intOf i).toNat)
  case atStart => exact ⟨0, Nat.zero_le _, rfl, Below.refl _ _⟩
  case round =>
    obtain ⟨k, hk, rfl, hBr⟩ := hrel
    by_cases hlt : k < nn
    · have hlt' : (k : Int) < (nn : Int) := by omega
      have k0 : (0 : Int) ≤ (k : Int) := by omega
      obtain ⟨b, off, e, d0, d1⟩ := (hM3.grown hBr) k (by rw [HNL.out]; exact hlt)
      subst e
      obtain ⟨b2, off2, e, f0, f1⟩ := (hM9.grown hBr) k (by rw [HNL.out]; exact hlt)
      subst e
      generalize (MA ++ MB).getD k (0, 0) = x at d0 d1 f0 f1
      obtain ⟨xk, xv⟩ := x
      simp only at d0 d1 f0 f1
      have g0 := lt_of_cell d0
      have g1 := lt_of_cell f0
      go_wp2_with fail
      go_quiet (fail)
      go_wp2
      go_roundw
      case rel => exact ⟨k + 1, by omega, by go_num, below_drewN hBr _⟩
      case measure => simp [intOf]; omega
    · have hkn : k = nn := by omega
      subst hkn
      go_wp2_with fail
      replace HB := hid (below_then HB.out hBr)
      replace x0 := cell_grown hBr x0
      replace x1 := cell_grown hBr x1
      replace x2 := cell_grown hBr x2
      replace hLx := hLx.grown hBr
      replace hA := hA.grown hBr
      replace hB2 := hB2.grown hBr
      replace hstd := hstd.grown hBr
      clear hM3 hM9 hBr HNL hnn80 hna40 hnb40
      obtain ⟨We, hWe⟩ : ∃ We : World, We = wr := ⟨_, rfl⟩
      obtain ⟨pb, hpb⟩ : ∃ b, We.heap.size = b := ⟨_, rfl⟩
      obtain ⟨Wf, hWf⟩ : ∃ W, W = (We.alloc (.cells #[.slice none 0 0, .slice none 0 0] 109)).alloc (.cells #[.slice aa n nc, .slice ba m mc] 109) := ⟨_, rfl⟩
      rw [← hWe] at x0 x1 x2 hLx hA hB2 hstd HB ⊢
      clear hWe
      have hBf : Below We.heap.size We Wf := by rw [hWf]; exact ((Below.refl _ We).alloc (Nat.le_refl _) _).alloc (by simp) _
      have zf : Wf.heap.size = pb + 2 := by rw [hWf, World.size_alloc, World.size_alloc, hpb]
      have hrow : Wf.rowIs pb 109 2 (fun _ => .slice none 0 0) := by
        rw [hWf, ← hpb]
        exact (World.rowIs_alloc We #[.slice none 0 0, .slice none 0 0] 109 _ (fun i hi => by
          have hi' : i < 2 := hi
          rcases (by omega : i = 0 ∨ i = 1) with rfl | rfl <;> rfl)).of_block ((below_alloc _ _).block _ (by simp))
      have l0 : Wf.cell? ⟨pb + 1, 0, none⟩ = some (.slice aa n nc) := by rw [hWf, ← hpb]; simp [go_sem]
      have l1 : Wf.cell? ⟨pb + 1, 1, none⟩ = some (.slice ba m mc) := by rw [hWf, ← hpb]; simp [go_sem]
      have hbx : w.heap.size < pb := by rw [← hpb]; exact lt_of_cell x0
      go_wp2_with fail
      rw [← hWf, hpb]
      clear hWf
      replace HB := hid (below_then HB.out hBf)
      replace x0 := cell_grown hBf x0
      replace x1 := cell_grown hBf x1
      replace x2 := cell_grown hBf x2
      have HBF := hid hBf
      have hpe : We.heap.size ≤ pb := by omega
      clear hBf
      go_loopw [17] (fun i wr => ∃ (k : Nat) (V : Nat → Value), k ≤ 2 ∧ i = .int .i64 k ∧ wr.rowIs pb 109 2 V ∧ But1 pb Wf wr ∧ Hid (PlainAt (entries l) A B pb k V wr)) (fun i _ => 2 - (intOf i).toNat)
      case atStart => exact ⟨0, _, Nat.zero_le _, rfl, hrow, But1.refl _ _, hid ⟨fun i hi => by omega, fun i hi => rfl⟩⟩
      clear hrow
      case round =>
        obtain ⟨k, V, hk2, rfl, hrow, hBt, HP⟩ := hrel
        obtain ⟨Wr, hWr⟩ : ∃ We : World, We = wr := ⟨_, rfl⟩
        rw [← hWr] at hrow hBt HP ⊢
        clear hWr
        have hzr := hBt.size
        have hBwe : Below We.heap.size We Wr := hBt.below HBF.out hpe (by omega)
        have y0 : Wr.cell? ⟨w.heap.size, 0, none⟩ = some (.slice a1 n1 c1) := hBt.cell (by omega) x0
        have y1 : Wr.cell? ⟨w.heap.size, 1, none⟩ = some (.slice a2 n2 c2) := hBt.cell (by omega) x1
        have y2 : Wr.cell? ⟨w.heap.size, 2, none⟩ = some (.slice a3 n3 c3) := hBt.cell (by omega) x2
        by_cases hlt : k < 2
        · have hlt' : (k : Int) < 2 := by omega
          have k0 : (0 : Int) ≤ (k : Int) := by omega
          obtain ⟨X, xa, nx, xc, hsX, hXl, hXn, HXok, hXs, lk⟩ : ∃ X xa nx xc, selL A B k = X ∧ X.length = nx ∧ nx ≤ 40 ∧ Hid (X.all textOk = true) ∧ Strs We xa X ∧ Wr.cell? ⟨pb + 1, k, none⟩ = some (.slice xa nx xc) := by
            rcases (by omega : k = 0 ∨ k = 1) with rfl | rfl
            · exact ⟨A, aa, n, nc, rfl, HA.out, hA40, HOA, hA, hBt.cell (by omega) l0⟩
            · exact ⟨B, ba, m, mc, rfl, HB3.out, hB40, HOB, hB2, hBt.cell (by omega) l1⟩
          have HSX := hid hsX
          have HXL := hid hXl
          clear hsX hXl
          have hV0 : V k = .slice none 0 0 := HP.out.left k (Nat.le_refl _)
          have HV0 := hid hV0
          clear hV0
          have hXw : ∀ W : World, But1 pb Wr W → Strs W xa X ∧ LexAt W a1 a2 a3 l ∧ Std W := fun W hb => have h := hb.below hBwe hpe (by omega); ⟨hXs.grown h, hLx.grown h, hstd.grown h⟩
          have HXW := hid hXw
          clear hXw
          go_wp2_with fail
          go_loopw [18] (fun i wr => ∃ (j : Nat) (v : Value), j ≤ nx ∧ i = .int .i64 j ∧ wr.rowIs pb 109 2 (fun i => if i = k then v else V i) ∧ wr.ownsRow Wr.heap.size 9 1 v (muteM (entries l) (X.take j)).length (flatV strC (muteM (entries l) (X.take j))) ∧ But1 pb Wr wr) (fun i _ => nx - (intOf i).toNat)
          case atStart => exact ⟨0, .slice none 0 0, Nat.zero_le _, rfl, hrow.congr (fun i hi => by by_cases e : i = k; (subst e; rw [if_pos rfl]; exact HV0.out); rw [if_neg e]), World.ownsRow_nil _ _ _ _, But1.refl _ _⟩
          clear hrow
          case round =>
            obtain ⟨j, v, hj, rfl, hrow, hown, hBj⟩ := hrel
            have hzj := hBj.size
            have z0 : wr.cell? ⟨w.heap.size, 0, none⟩ = some (.slice a1 n1 c1) := hBj.cell (by omega) y0
            have z1 : wr.cell? ⟨w.heap.size, 1, none⟩ = some (.slice a2 n2 c2) := hBj.cell (by omega) y1
            have z2 : wr.cell? ⟨w.heap.size, 2, none⟩ = some (.slice a3 n3 c3) := hBj.cell (by omega) y2
            have lj : wr.cell? ⟨pb + 1, k, none⟩ = some (.slice xa nx xc) := hBj.cell (by omega) lk
            obtain ⟨hXj, hLj, hSj⟩ := HXW.out wr hBj
            have gl := lt_of_cell lj
            by_cases hltj : j < nx
            · have hltj' : (j : Int) < (nx : Int) := by omega
              have j0 : (0 : Int) ≤ (j : Int) := by omega
              obtain ⟨xb, xoff, hxa, wj⟩ := hXj j (by rw [HXL.out]; exact hltj)
              subst hxa
              have hnx := mute_next (E := entries l) (L := X) (j := j) (by rw [HXL.out]; exact hltj)
              have htm : X.getD j .empty ∈ X := by rw [List.getD_eq_getElem?_getD, List.getElem?_eq_getElem (by rw [HXL.out]; exact hltj), Option.getD_some]; exact List.getElem_mem _
              generalize X.getD j .empty = t at wj hnx htm
              have HE1 : Hid (senseErr l [t] = 0) := hid (sense_one HLE.out HXok.out htm)
              have hq40 : (muteM (entries l) (X.take j)).length ≤ 40 := Nat.le_trans mute_length (Nat.le_trans (List.length_take_le _ _) (by omega))
              obtain ⟨z, hz⟩ : ∃ z, (senseM (entries l) [t]).length = z := ⟨_, rfl⟩
              rw [hz] at hnx
              have HZ := hid hz
              have HNX := hid hnx
              generalize hMT : muteM (entries l) (X.take j) = MT at hown HNX hq40
              clear hz hnx htm hMT
              obtain ⟨q, hq⟩ : ∃ q, MT.length = q := ⟨_, rfl⟩
              rw [hq] at hown hq40
              have HQ := hid hq
              clear hq
              have hxb : xb < pb := by rw [← hpb]; obtain ⟨b', o', e', hc⟩ := hXs j (by rw [HXL.out]; exact hltj); cases e'; exact lt_of_cell hc
              have hrl := hrow.lt
              have gx := lt_of_cell wj
              have gz := lt_of_cell z0
              have hBd : Below wr.heap.size wr wr.drew := (Below.refl _ _).drew
              have hBa : Below wr.heap.size wr (wr.alloc (.cells #[.string t] 9)).drew := (below_alloc wr _).drew
              have ZO := hid (And.intro z0 (And.intro z1 (And.intro z2 (And.intro lj wj))))
              have HXJ := hid hXj
              have HROW := hid hrow
              have HOWN := hid hown
              have HBJ := hid hBj
              clear hXj hrow hown hBj
              by_cases hzz : z = 0
              · have gzz : ((z : Int) == 0) = true := by simp; omega
                have HZ0 := hid hzz
                clear hzz
                go_wp2_with fail
                go_region_held3 (fun w' : World => w'.cell? ⟨w.heap.size, 0, none⟩ = some (.slice a1 n1 c1) ∧ w'.cell? ⟨w.heap.size, 1, none⟩ = some (.slice a2 n2 c2) ∧ w'.cell? ⟨w.heap.size, 2, none⟩ = some (.slice a3 n3 c3) ∧ w'.cell? ⟨pb + 1, k, none⟩ = some (.slice (some ⟨xb, xoff, none⟩) nx xc) ∧ w'.cell? ⟨xb, xoff + j, none⟩ = some (.string t)) (first | with_reducible exact ⟨z0, z1, z2, lj, wj⟩ | with_reducible exact ⟨cell_grown hBd z0, cell_grown hBd z1, cell_grown hBd z2, cell_grown hBd lj, cell_grown hBd wj⟩ | with_reducible exact ⟨cell_grown hBa z0, cell_grown hBa z1, cell_grown hBa z2, cell_grown hBa lj, cell_grown hBa wj⟩ | with_reducible exact ⟨cell_grown (Below.alloc (Below.refl _ _) (Nat.le_refl _) _) z0, cell_grown (Below.alloc (Below.refl _ _) (Nat.le_refl _) _) z1, cell_grown (Below.alloc (Below.refl _ _) (Nat.le_refl _) _) z2, cell_grown (Below.alloc (Below.refl _ _) (Nat.le_refl _) _) lj, cell_grown (Below.alloc (Below.refl _ _) (Nat.le_refl _) _) wj⟩) (first | (go_at_call 19; first | ((with_reducible refine (lexicon_any l a1 a2 a3 n1 n2 n3 c1 c2 c3 wr.drew H1.out H2.out H3.out q1 q2 q3 (fun N hN => by have := HT.out.m2 N hN; omega) (hLj.grown hBd)).mono ?_); rintro e wl ⟨b1, b2, b3, d1, d2, d3, rfl, hl3, hb1⟩; have hG1 : Below wr.heap.size wr wl := hBd.trans (hb1.mono hBd.size); replace z0 := cell_grown hG1 ZO.out.1; replace z1 := cell_grown hG1 ZO.out.2.1; replace z2 := cell_grown hG1 ZO.out.2.2.1; replace lj := cell_grown hG1 ZO.out.2.2.2.1; replace wj := cell_grown hG1 ZO.out.2.2.2.2; have hl4 : LexAt (wl.alloc (.cells #[.string t] 9)) b1 b2 b3 l := hl3.grown (below_alloc _ _); have hst := strs_lone wl t 9; have hG2 : Below wr.heap.size wr (wl.alloc (.cells #[.string t] 9)) := hG1.alloc hG1.size _; have hS2 := hSj.grown hG2) | ((with_reducible refine (lexicon_any l a1 a2 a3 n1 n2 n3 c1 c2 c3 ((wr.alloc (.cells #[.string t] 9)).drew) H1.out H2.out H3.out q1 q2 q3 (fun N hN => by have := HT.out.m2 N hN; omega) (hLj.grown hBa)).mono ?_); rintro e wl ⟨b1, b2, b3, d1, d2, d3, rfl, hl4, hb1⟩; have hG2 : Below wr.heap.size wr wl := hBa.trans (hb1.mono hBa.size); replace z0 := cell_grown hG2 ZO.out.1; replace z1 := cell_grown hG2 ZO.out.2.1; replace z2 := cell_grown hG2 ZO.out.2.2.1; replace lj := cell_grown hG2 ZO.out.2.2.2.1; replace wj := cell_grown hG2 ZO.out.2.2.2.2; have hst := ((strs_lone wr t 9).grown (Below.refl _ _).drew).grown hb1; have hS2 := hSj.grown hG2)) | (go_at_call 20; refine (senseF_any l b1 b2 b3 n1 n2 n3 d1 d2 d3 [t] 1 1 _ _ H1.out H2.out H3.out hl4 rfl (by unfold maxLen; omega) hst hS2).mono ?_; rintro e ws ⟨hb2, he⟩; rw [if_pos HE1.out, HZ.out] at he; obtain ⟨va, vc, rfl, -⟩ := he; have hG3 : Below wr.heap.size wr ws := hG2.trans (hb2.mono hG2.size); replace z0 := cell_grown hG3 ZO.out.1; replace z1 := cell_grown hG3 ZO.out.2.1; replace z2 := cell_grown hG3 ZO.out.2.2.1; replace lj := cell_grown hG3 ZO.out.2.2.2.1; replace wj := cell_grown hG3 ZO.out.2.2.2.2))
                all_goals
                  have hrw : ws.rowIs pb 109 2 (fun i => if i = k then v else V i) := HROW.out.of_block (hG3.block pb hrl)
                  have pv : ws.cell? ⟨pb, k, none⟩ = some v := by have h := hrw.cell (i := k) hlt; rw [if_pos rfl] at h; exact h
                  have fv := hrw.frozen k
                  have hown3 := owns_below hG3 HOWN.out
                  have hzs := hG3.size
                  have hpl : pb < Wr.heap.size := by omega
                  have hpls : pb < ws.heap.size := by omega
                  have hstep : ∀ w5 : World, (ws.drew.alloc (.cells #[.string t] 9)).grownBy w5 v.ownBlock → w5.rowIs pb 109 2 (fun i => if i = k then v else V i) ∧ But1 pb Wr w5 ∧ pb < w5.heap.size ∧ w5.cell? ⟨pb, k, none⟩ = some v ∧ w5.frozen? ⟨pb, k, none⟩ = false ∧ Below Wr.heap.size ws.drew w5 := by
                    intro w5 hgrow
                    have hb3 : Below Wr.heap.size ws.drew w5 := below_of_grown (Below.refl _ _) hown3 hgrow (by show Wr.heap.size ≤ ws.heap.size; omega)
                    have hr5 : w5.rowIs pb 109 2 (fun i => if i = k then v else V i) := hrw.of_block (w' := w5) (hb3.block pb hpl)
                    have h5 := hr5.cell (i := k) hlt
                    rw [if_pos rfl] at h5
                    exact ⟨hr5, (HBJ.out.over ((hG3.drew).mono hzj)).over hb3, hr5.lt, h5, hr5.frozen k, hb3⟩
                  have HSTEP := hid hstep
                  clear hl4 hst hS2 hb2 hb1 hBd hBa hstep x0 x1 x2 hLx hA hB2 hstd l0 l1 y0 y1 y2 z0 z1 z2 lk hXs hLj hSj hG3 hG2 hrw
                  go_wp2_with fail
                  refine wp_region_noPanic ?_
                  refine wp_region_held_drew (S := (fun w' : World => w'.cell? ⟨pb + 1, k, none⟩ = some (.slice (some ⟨xb, xoff, none⟩) nx xc) ∧ w'.cell? ⟨xb, xoff + j, none⟩ = some (.string t))) (by kernel_rfl) ?_ (fun hHeld => ?_)
                  · exact ⟨lj, wj⟩
                  refine wpAnyH_take (i := 0) (oi := _) (v := ?_) rfl (by kernel_rfl) (by kernel_rfl) (by kernel_rfl) (fun _ _ _ h => h) (Or.inl ⟨by rfl, ?_⟩) (by assumption) ?_
                  rotate_left 1
                  · intro w hSw
                    (try dsimp only at hSw)
                    go_simp
                    all_goals (with_reducible rfl)
                  try simp only [Act.put, List.setIfInBounds_toArray, List.set_cons_zero, List.set_cons_succ]
                  refine wpAnyH_take (i := 1) (oi := _) (v := ?_) rfl (by kernel_rfl) (by kernel_rfl) (by kernel_rfl) (fun _ _ _ h => h) (Or.inl ⟨by rfl, ?_⟩) (by assumption) ?_
                  rotate_left 1
                  · intro w hSw
                    (try dsimp only at hSw)
                    go_simp
                    all_goals (with_reducible rfl)
                  try simp only [Act.put, List.setIfInBounds_toArray, List.set_cons_zero, List.set_cons_succ]
                  refine wpAnyH_take (i := 2) (oi := _) (v := ?_) rfl (by kernel_rfl) (by kernel_rfl) (by kernel_rfl) (fun _ _ _ h => h) (Or.inl ⟨by rfl, ?_⟩) (by assumption) ?_
                  rotate_left 1
                  · intro w hSw
                    (try dsimp only at hSw)
                    go_simp
                    all_goals (with_reducible rfl)
                  try simp only [Act.put, List.setIfInBounds_toArray, List.set_cons_zero, List.set_cons_succ]
                  refine wpAnyH_take (i := 4) (oi := _) (v := ?_) rfl (by kernel_rfl) (by kernel_rfl) (by kernel_rfl) (fun _ _ _ h => h) (Or.inl ⟨by rfl, ?_⟩) (by assumption) ?_
                  rotate_left 1
                  · intro w hSw
                    (try dsimp only at hSw)
                    go_simp
                    all_goals (with_reducible rfl)
                  try simp only [Act.put, List.setIfInBounds_toArray, List.set_cons_zero, List.set_cons_succ]
                  refine wpAnyH_take (i := 5) (oi := _) (v := ?_) rfl (by kernel_rfl) (by kernel_rfl) (by kernel_rfl) (fun _ _ _ h => h) (Or.inl ⟨by rfl, ?_⟩) (by assumption) ?_
                  rotate_left 1
                  · intro w hSw
                    (try dsimp only at hSw)
                    go_simp
                    all_goals (with_reducible rfl)
                  try simp only [Act.put, List.setIfInBounds_toArray, List.set_cons_zero, List.set_cons_succ]
                  refine wpAnyH_take (i := 6) (oi := _) (v := ?_) rfl (by kernel_rfl) (by kernel_rfl) (by kernel_rfl) (fun _ _ _ h => h) (Or.inl ⟨by rfl, ?_⟩) (by assumption) ?_
                  rotate_left 1
                  · intro w hSw
                    (try dsimp only at hSw)
                    go_simp
                    all_goals (with_reducible rfl)
                  try simp only [Act.put, List.setIfInBounds_toArray, List.set_cons_zero, List.set_cons_succ]
                  refine wpAnyH_take (i := 7) (oi := _) (v := ?_) rfl (by kernel_rfl) (by kernel_rfl) (by kernel_rfl) (fun _ _ _ h => h) (Or.inl ⟨by rfl, ?_⟩) (by assumption) ?_
                  rotate_left 1
                  · intro w hSw
                    (try dsimp only at hSw)
                    go_simp
                    all_goals (with_reducible rfl)
                  try simp only [Act.put, List.setIfInBounds_toArray, List.set_cons_zero, List.set_cons_succ]
                  refine wpAnyH_take (i := 8) (oi := _) (v := ?_) rfl (by kernel_rfl) (by kernel_rfl) (by kernel_rfl) (fun _ _ _ h => h) (Or.inl ⟨by rfl, ?_⟩) (by assumption) ?_
                  rotate_left 1
                  · intro w hSw
                    (try dsimp only at hSw)
                    go_simp
                    all_goals (with_reducible rfl)
                  try simp only [Act.put, List.setIfInBounds_toArray, List.set_cons_zero, List.set_cons_succ]
                  refine wpAnyH_take (i := 9) (oi := _) (v := ?_) rfl (by kernel_rfl) (by kernel_rfl) (by kernel_rfl) (fun _ _ _ h => h) (Or.inl ⟨by rfl, ?_⟩) (by assumption) ?_
                  rotate_left 1
                  · intro w hSw
                    (try dsimp only at hSw)
                    go_simp
                    all_goals (with_reducible rfl)
                  try simp only [Act.put, List.setIfInBounds_toArray, List.set_cons_zero, List.set_cons_succ]
                  refine wpAnyH_ready (rs := [3, 10]) (by kernel_rfl) (by simp) ?_
                  refine AllReadyH.cons (o := _) rfl (fun K hK => ?_) ?_
                  · go_simp
                    refine hK.out _ _ ?_ (fun hHeld => ?_)
                    · exact ⟨lj, wj⟩
                    clear hK K
                    try simp only [Act.put, List.setIfInBounds_toArray, List.set_cons_zero, List.set_cons_succ]
                    refine wpAnyH_ready (rs := [10]) (by kernel_rfl) (by simp) ?_
                    refine AllReadyH.cons (o := _) rfl (fun K hK => ?_) ?_
                    · go_simp
                      refine hK.out _ _ ?_ (fun hHeld => ?_)
                      · exact ⟨cell_grown (below_alloc _ _) lj, cell_grown (below_alloc _ _) wj⟩
                      clear hK K
                      try simp only [Act.put, List.setIfInBounds_toArray, List.set_cons_zero, List.set_cons_succ]
                      refine wpAnyH_ready (rs := [11]) (by kernel_rfl) (by simp) ?_
                      refine AllReadyH.cons (o := _) rfl (fun K hK => ?_) ?_
                      · refine step_append_lies _ rfl _ _ 24 rfl Wr.heap.size 9 i0 (.string .empty) 1 16 Tryz.underlying24 hi hz0 hz1 hz2 rfl (by decide) _ q _ rfl (hown3.alloc (.cells #[.string t] 9)) ⟨ws.heap.size, 0, none⟩ 1 1 [.string t] rfl rfl (cells_new ws #[.string t] 9) (fun x hx => by simp at hx; subst hx; rfl) (by omega) (by unfold maxLen; omega) (by omega) (by simp; omega) (ws.heap.size + 1) (by simp) ?_
                        intro g cp w5 hown' hgrow hat hlt'
                        obtain ⟨hr5, hb5, sl, s5, f5, hb3⟩ := HSTEP.out w5 hgrow
                        clear hgrow hat
                        refine hK.out _ _ ?_ (fun hHeld => ?_)
                        · exact ⟨cell_below hb3 (by omega) lj, cell_below hb3 (by omega) wj⟩
                        clear hK K
                        try simp only [Act.put, List.setIfInBounds_toArray, List.set_cons_zero, List.set_cons_succ]
                        refine wpAnyH_take (i := 12) (oi := _) (v := ?_) rfl (by kernel_rfl) (by kernel_rfl) (by kernel_rfl) (fun _ _ _ h => h) (Or.inl ⟨by rfl, ?_⟩) (by assumption) ?_
                        rotate_left 1
                        · intro w hSw
                          (try dsimp only at hSw)
                          go_simp
                          all_goals (with_reducible rfl)
                        try simp only [Act.put, List.setIfInBounds_toArray, List.set_cons_zero, List.set_cons_succ]
                        refine wpAnyH_ready (rs := [13]) (by kernel_rfl) (by simp) ?_
                        refine AllReadyH.cons (o := _) rfl (fun K hK => ?_) ?_
                        · go_simp
                          refine hK.out _ _ ?_ (fun hHeld => ?_)
                          · exact ⟨(World.cell?_setCell_far _ _ _ _ (by simp)).trans (cell_below hb3 (by omega) lj), (World.cell?_setCell_far _ _ _ _ (by simp; omega)).trans (cell_below hb3 (by omega) wj)⟩
                          clear hK K
                          try simp only [Act.put, List.setIfInBounds_toArray, List.set_cons_zero, List.set_cons_succ]
                          refine wpAnyH_done (by kernel_rfl) ?_ _
                          refine NoPanic.normal ?_
                          go_wp2
                          go_roundw
                          case rel => exact ⟨j + 1, .slice (some ⟨g, 0, none⟩) (q + 1) cp, by omega, by go_num, (hr5.set k _).congr (fun i hi => by by_cases e : i = k <;> simp [e]), by rw [HNX.out, if_pos HZ0.out, List.length_append, List.length_singleton, HQ.out, flatV_snoc]; exact ownsRow_setCell_below hown' (by exact hpl) _, hb5.set k _⟩
                          case measure => simp [intOf]; omega
                        exact AllReadyH.nil
                      exact AllReadyH.nil
                    exact AllReadyH.nil
                  refine AllReadyH.cons (o := _) rfl (fun K hK => ?_) ?_
                  · go_simp
                    refine hK.out _ _ ?_ (fun hHeld => ?_)
                    · exact ⟨cell_grown (below_alloc _ _) lj, cell_grown (below_alloc _ _) wj⟩
                    clear hK K
                    try simp only [Act.put, List.setIfInBounds_toArray, List.set_cons_zero, List.set_cons_succ]
                    refine wpAnyH_ready (rs := [3]) (by kernel_rfl) (by simp) ?_
                    refine AllReadyH.cons (o := _) rfl (fun K hK => ?_) ?_
                    · go_simp
                      refine hK.out _ _ ?_ (fun hHeld => ?_)
                      · exact ⟨cell_grown (below_alloc _ _) lj, cell_grown (below_alloc _ _) wj⟩
                      clear hK K
                      try simp only [Act.put, List.setIfInBounds_toArray, List.set_cons_zero, List.set_cons_succ]
                      refine wpAnyH_ready (rs := [11]) (by kernel_rfl) (by simp) ?_
                      refine AllReadyH.cons (o := _) rfl (fun K hK => ?_) ?_
                      · refine step_append_lies _ rfl _ _ 24 rfl Wr.heap.size 9 i0 (.string .empty) 1 16 Tryz.underlying24 hi hz0 hz1 hz2 rfl (by decide) _ q _ rfl (hown3.alloc (.cells #[.string t] 9)) ⟨ws.heap.size, 0, none⟩ 1 1 [.string t] rfl rfl (cells_new ws #[.string t] 9) (fun x hx => by simp at hx; subst hx; rfl) (by omega) (by unfold maxLen; omega) (by omega) (by simp; omega) (ws.heap.size + 1) (by simp) ?_
                        intro g cp w5 hown' hgrow hat hlt'
                        obtain ⟨hr5, hb5, sl, s5, f5, hb3⟩ := HSTEP.out w5 hgrow
                        clear hgrow hat
                        refine hK.out _ _ ?_ (fun hHeld => ?_)
                        · exact ⟨cell_below hb3 (by omega) lj, cell_below hb3 (by omega) wj⟩
                        clear hK K
                        try simp only [Act.put, List.setIfInBounds_toArray, List.set_cons_zero, List.set_cons_succ]
                        refine wpAnyH_take (i := 12) (oi := _) (v := ?_) rfl (by kernel_rfl) (by kernel_rfl) (by kernel_rfl) (fun _ _ _ h => h) (Or.inl ⟨by rfl, ?_⟩) (by assumption) ?_
                        rotate_left 1
                        · intro w hSw
                          (try dsimp only at hSw)
                          go_simp
                          all_goals (with_reducible rfl)
                        try simp only [Act.put, List.setIfInBounds_toArray, List.set_cons_zero, List.set_cons_succ]
                        refine wpAnyH_ready (rs := [13]) (by kernel_rfl) (by simp) ?_
                        refine AllReadyH.cons (o := _) rfl (fun K hK => ?_) ?_
                        · go_simp
                          refine hK.out _ _ ?_ (fun hHeld => ?_)
                          · exact ⟨(World.cell?_setCell_far _ _ _ _ (by simp)).trans (cell_below hb3 (by omega) lj), (World.cell?_setCell_far _ _ _ _ (by simp; omega)).trans (cell_below hb3 (by omega) wj)⟩
                          clear hK K
                          try simp only [Act.put, List.setIfInBounds_toArray, List.set_cons_zero, List.set_cons_succ]
                          refine wpAnyH_done (by kernel_rfl) ?_ _
                          refine NoPanic.normal ?_
                          go_wp2
                          go_roundw
                          case rel => exact ⟨j + 1, .slice (some ⟨g, 0, none⟩) (q + 1) cp, by omega, by go_num, (hr5.set k _).congr (fun i hi => by by_cases e : i = k <;> simp [e]), by rw [HNX.out, if_pos HZ0.out, List.length_append, List.length_singleton, HQ.out, flatV_snoc]; exact ownsRow_setCell_below hown' (by exact hpl) _, hb5.set k _⟩
                          case measure => simp [intOf]; omega
                        exact AllReadyH.nil
                      exact AllReadyH.nil
                    exact AllReadyH.nil
                  exact AllReadyH.nil

              · have gzz : ((z : Int) == 0) = false := by simp; omega
                have HZ0 := hid hzz
                clear hzz
                go_wp2_with fail
                go_region_held3 (fun w' : World => w'.cell? ⟨w.heap.size, 0, none⟩ = some (.slice a1 n1 c1) ∧ w'.cell? ⟨w.heap.size, 1, none⟩ = some (.slice a2 n2 c2) ∧ w'.cell? ⟨w.heap.size, 2, none⟩ = some (.slice a3 n3 c3) ∧ w'.cell? ⟨pb + 1, k, none⟩ = some (.slice (some ⟨xb, xoff, none⟩) nx xc) ∧ w'.cell? ⟨xb, xoff + j, none⟩ = some (.string t)) (first | with_reducible exact ⟨z0, z1, z2, lj, wj⟩ | with_reducible exact ⟨cell_grown hBd z0, cell_grown hBd z1, cell_grown hBd z2, cell_grown hBd lj, cell_grown hBd wj⟩ | with_reducible exact ⟨cell_grown hBa z0, cell_grown hBa z1, cell_grown hBa z2, cell_grown hBa lj, cell_grown hBa wj⟩ | with_reducible exact ⟨cell_grown (Below.alloc (Below.refl _ _) (Nat.le_refl _) _) z0, cell_grown (Below.alloc (Below.refl _ _) (Nat.le_refl _) _) z1, cell_grown (Below.alloc (Below.refl _ _) (Nat.le_refl _) _) z2, cell_grown (Below.alloc (Below.refl _ _) (Nat.le_refl _) _) lj, cell_grown (Below.alloc (Below.refl _ _) (Nat.le_refl _) _) wj⟩) (first | (go_at_call 19; first | ((with_reducible refine (lexicon_any l a1 a2 a3 n1 n2 n3 c1 c2 c3 wr.drew H1.out H2.out H3.out q1 q2 q3 (fun N hN => by have := HT.out.m2 N hN; omega) (hLj.grown hBd)).mono ?_); rintro e wl ⟨b1, b2, b3, d1, d2, d3, rfl, hl3, hb1⟩; have hG1 : Below wr.heap.size wr wl := hBd.trans (hb1.mono hBd.size); replace z0 := cell_grown hG1 ZO.out.1; replace z1 := cell_grown hG1 ZO.out.2.1; replace z2 := cell_grown hG1 ZO.out.2.2.1; replace lj := cell_grown hG1 ZO.out.2.2.2.1; replace wj := cell_grown hG1 ZO.out.2.2.2.2; have hl4 : LexAt (wl.alloc (.cells #[.string t] 9)) b1 b2 b3 l := hl3.grown (below_alloc _ _); have hst := strs_lone wl t 9; have hG2 : Below wr.heap.size wr (wl.alloc (.cells #[.string t] 9)) := hG1.alloc hG1.size _; have hS2 := hSj.grown hG2) | ((with_reducible refine (lexicon_any l a1 a2 a3 n1 n2 n3 c1 c2 c3 ((wr.alloc (.cells #[.string t] 9)).drew) H1.out H2.out H3.out q1 q2 q3 (fun N hN => by have := HT.out.m2 N hN; omega) (hLj.grown hBa)).mono ?_); rintro e wl ⟨b1, b2, b3, d1, d2, d3, rfl, hl4, hb1⟩; have hG2 : Below wr.heap.size wr wl := hBa.trans (hb1.mono hBa.size); replace z0 := cell_grown hG2 ZO.out.1; replace z1 := cell_grown hG2 ZO.out.2.1; replace z2 := cell_grown hG2 ZO.out.2.2.1; replace lj := cell_grown hG2 ZO.out.2.2.2.1; replace wj := cell_grown hG2 ZO.out.2.2.2.2; have hst := ((strs_lone wr t 9).grown (Below.refl _ _).drew).grown hb1; have hS2 := hSj.grown hG2)) | (go_at_call 20; refine (senseF_any l b1 b2 b3 n1 n2 n3 d1 d2 d3 [t] 1 1 _ _ H1.out H2.out H3.out hl4 rfl (by unfold maxLen; omega) hst hS2).mono ?_; rintro e ws ⟨hb2, he⟩; rw [if_pos HE1.out, HZ.out] at he; obtain ⟨va, vc, rfl, -⟩ := he; have hG3 : Below wr.heap.size wr ws := hG2.trans (hb2.mono hG2.size); replace z0 := cell_grown hG3 ZO.out.1; replace z1 := cell_grown hG3 ZO.out.2.1; replace z2 := cell_grown hG3 ZO.out.2.2.1; replace lj := cell_grown hG3 ZO.out.2.2.2.1; replace wj := cell_grown hG3 ZO.out.2.2.2.2))
                all_goals
                  have hzs := hG3.size
                  clear hl4 hst hS2 hb2 hb1 hBd hBa
                  go_wp2
                  go_roundw
                  case rel => exact ⟨j + 1, v, by omega, by go_num, HROW.out.of_block (hG3.block pb hrl), by rw [HNX.out, if_neg HZ0.out, HQ.out]; exact owns_below hG3 HOWN.out, HBJ.out.over (hG3.mono hzj)⟩
                  case measure => simp [intOf]; omega
            · have hjn : j = nx := by omega
              have hfull : X.take j = X := List.take_of_length_le (by rw [HXL.out]; omega)
              rw [hfull] at hown
              have hP2 := (HP.out.but hBj).next HSX.out hown (by omega : pb < Wr.heap.size)
              have HP2 := hid hP2
              have HBJ := hid hBj
              have HROW := hid hrow
              clear hP2 hBj hrow hown hfull
              go_wp2
              go_roundw
              case rel => exact ⟨k + 1, _, by omega, by go_num, HROW.out, hBt.trans HBJ.out, HP2⟩
              case measure => simp [intOf]; omega
        · have hk : k = 2 := by omega
          subst hk
          obtain ⟨ra0, rc0, hv0, hs0, -⟩ := HP.out.done 0 (by omega)
          obtain ⟨ra1, rc1, hv1, hs1, -⟩ := HP.out.done 1 (by omega)
          rw [show selL A B 0 = A from rfl] at hv0 hs0
          rw [show selL A B 1 = B from rfl] at hv1 hs1
          obtain ⟨mt1, mt2⟩ := mute_trouble HLE.out (by rw [HA.out]; exact hA40) HOA.out (by rw [HB3.out]; exact hB40) HOB.out
          have hm0 : (muteM (entries l) A).length ≤ 40 := Nat.le_trans mute_length (by rw [HA.out]; exact hA40)
          have hm1 : (muteM (entries l) B).length ≤ 40 := Nat.le_trans mute_length (by rw [HB3.out]; exact hB40)
          have p0 := hrow.cell (i := 0) (by decide)
          have p1 := hrow.cell (i := 1) (by decide)
          rw [hv0] at p0
          rw [hv1] at p1
          have HM1 := hid mt1
          have HM2 := hid mt2
          generalize muteM (entries l) A = MA at p0 hs0 HM1 HM2 hm0
          generalize muteM (entries l) B = MB at p1 hs1 HM1 HM2 hm1
          clear mt1 mt2 hv0 hv1
          obtain ⟨m0, hm0e⟩ : ∃ m, MA.length = m := ⟨_, rfl⟩
          obtain ⟨m1, hm1e⟩ : ∃ m, MB.length = m := ⟨_, rfl⟩
          rw [hm0e] at p0 hm0
          rw [hm1e] at p1 hm1
          have HE0 := hid hm0e
          have HE1 := hid hm1e
          clear hm0e hm1e
          have hLr := hLx.grown hBwe
          have hSr := hstd.grown hBwe
          have gp := lt_of_cell p0
          have gy := lt_of_cell y0
          have HBW := hid (below_then (below_then HB.out (Below.refl _ Wf)) (Below.refl _ Wf))
          have hBd : Below Wr.heap.size Wr Wr.drew := (Below.refl _ _).drew
          have hHBW : Below w.heap.size w Wr := hBt.below HB.out (by omega) (by omega)
          have HBW := hid hHBW
          clear hHBW hrow hBt HP
          go_wp2_with fail
          go_region_held3 (fun w' : World => w'.cell? ⟨w.heap.size, 0, none⟩ = some (.slice a1 n1 c1) ∧ w'.cell? ⟨w.heap.size, 1, none⟩ = some (.slice a2 n2 c2) ∧ w'.cell? ⟨w.heap.size, 2, none⟩ = some (.slice a3 n3 c3) ∧ w'.cell? ⟨pb, 0, none⟩ = some (.slice ra0 m0 rc0) ∧ w'.cell? ⟨pb, 1, none⟩ = some (.slice ra1 m1 rc1)) (first | with_reducible exact ⟨y0, y1, y2, p0, p1⟩ | with_reducible exact ⟨cell_grown hBd y0, cell_grown hBd y1, cell_grown hBd y2, cell_grown hBd p0, cell_grown hBd p1⟩) (first
            | (go_at_call 19; refine (lexicon_any l a1 a2 a3 n1 n2 n3 c1 c2 c3 Wr.drew H1.out H2.out H3.out q1 q2 q3 (fun N hN => by have := HT.out.m2 N hN; omega) (hLr.grown hBd)).mono ?_; rintro e wl ⟨b1, b2, b3, d1, d2, d3, rfl, hl3, hb1⟩; have hG1 : Below Wr.heap.size Wr wl := hBd.trans (hb1.mono hBd.size); replace y0 := cell_grown hG1 y0; replace y1 := cell_grown hG1 y1; replace y2 := cell_grown hG1 y2; replace p0 := cell_grown hG1 p0; replace p1 := cell_grown hG1 p1)
            | (go_at_call 26; refine (troubleF_any l b1 b2 b3 n1 n2 n3 d1 d2 d3 [] none 0 0 MA MB m0 m1 rc0 rc1 ra0 ra1 wl H1.out H2.out H3.out hl3 rfl (by unfold maxLen; omega) (swapsAt_nil _) HE0.out (by unfold maxLen; omega) (hs0.grown hG1) HE1.out (by unfold maxLen; omega) (hs1.grown hG1) (hSr.grown hG1)).mono ?_; rintro e wt ⟨he, hb2⟩; rw [HM1.out, HM2.out] at he; subst he; have hG3 : Below Wr.heap.size Wr wt := hG1.trans (hb2.mono hG1.size); replace y0 := cell_grown hb2 y0; replace y1 := cell_grown hb2 y1; replace y2 := cell_grown hb2 y2; replace p0 := cell_grown hb2 p0; replace p1 := cell_grown hb2 p1))
          have hSt := hSr.grown hG3
          clear hl3 hb1 hb2
          go_wp2_with fail
          refine (awake_any _ hSt).mono ?_
          rintro e wz ⟨rfl, hb⟩
          go_wp2
          go_ret
          exact ⟨rfl, below_then (below_then HBW.out hG3) hb⟩

end Go.Proofs.YtbampfkmgjfofaaGreatDoor
