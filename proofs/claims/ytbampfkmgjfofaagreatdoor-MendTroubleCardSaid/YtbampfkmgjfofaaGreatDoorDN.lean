/- Mend: the law MendTrouble, walked. -/
import Derived.Test.YtbampfkmgjfofaaGreatDoorCD
import Derived.Test.YtbampfkmgjfofaaGreatDoorCT
import Derived.Test.YtbampfkmgjfofaaGreatDoorCW
import Derived.Test.YtbampfkmgjfofaaGreatDoorCE
import Derived.Test.YtbampfkmgjfofaaGreatDoorDI
import Derived.Deep.CutRange
import Derived.Deep.CutBlock
import Derived.Deep.DeepCutAuto
import Derived.Deep.RegionHeld3
import Derived.IntWalk
import Derived.Deep.QuietTactic
import Derived.BigQuiet
namespace Go.Proofs.YtbampfkmgjfofaaGreatDoor
open Go.RowKit

theorem trouble_fine {l : Lex} {S : List (Int × Int × Int)} {A B : List Tx} (hr : readErr l S = 0) (a1 : A.length ≤ 80) (a2 : A.all textOk = true) (b1 : B.length ≤ 80) (b2 : B.all textOk = true) : troubleF l S A B = troubleM S (senseM (entries l) A) (senseM (entries l) B) ∧ troubleErr l S A B = 0 := by
  have h0 : troubleErr l S A B = 0 := by
    unfold troubleErr
    rw [if_pos hr, textsErr_two]
    unfold listedM
    have : ¬ 80 < A.length := by omega
    have : ¬ 80 < B.length := by omega
    simp [*]
  exact ⟨by unfold troubleF; rw [if_pos h0], h0⟩

theorem read_nil0 {l : Lex} {S : List (Int × Int × Int)} (h : readErr l S = 0) : readErr l [] = 0 := by
  have h1 := (lex_of_read h).1
  unfold readErr
  simp [h1, swapsErr]

/-- With one swap more. -/
theorem read_more {l : Lex} {S T : List (Int × Int × Int)} (h : readErr l S = 0) (hT : swapsErr T = 0) : readErr l T = 0 := by
  have h1 := (lex_of_read h).1
  unfold readErr
  rw [if_pos h1]
  exact hT

theorem Tryz.info96w : (Tryz.prog.info? 96).map (fun i => (i.zero, i.size, i.bytes)) = some (some (.agg #[.int .u8 0, .int .i64 0, .int .i64 0]), 3, 24) := by kernel_rfl
theorem Tryz.info104w : (Tryz.prog.info? 104).map (fun i => (i.zero, i.size, i.bytes)) = some (some (.agg #[.string .empty, .int .i64 0]), 2, 24) := by kernel_rfl

/-- Swaps, appended to swaps of the call's own, at a step of a region. -/
theorem step_append_swaps {P : Program} {w : World} {ops : Array Oper} {o : Oper} {a : Act} {K : Act → World → Prop} {Q : Exit → Act → World → Prop} {E : Prop} (hgd : o.guard = none) (s x : Operand) (t : TypeId)
    (ho : o.op = .call { callee := .builtin .append, args := #[s, x], argTypes := #[t, t] })
    (base : Nat) (i : TypeInfo) (ht : P.underlying t = some (.slice 96)) (hi : P.info? 96 = some i) (hz : i.zero = some (.agg #[.int .u8 0, .int .i64 0, .int .i64 0])) (hsize : i.size = 3) (hby : i.bytes = 24)
    (v : Value) (n : Nat) (xs : List Value) (hs : a.eval s = v) (hown : w.ownsRow base 96 3 v n xs) (za : Option Addr) (m c : Nat) (Z : List (Int × Int × Int)) (hx : a.eval x = .slice za m c) (hl : Z.length = m) (hI : SwapsAt w za Z)
    (h63 : n + m ≤ 1000000) (hbase : base ≤ w.heap.size)
    (h : ∀ v' w', w'.ownsRow base 96 3 v' (n + m) (xs ++ flatV swapC Z) → w.grownBy w' v.ownBlock → (v'.ownBlock = v.ownBlock ∨ v'.ownBlock = some w.heap.size) → K (a.put o.dst v') w') :
    if Region.wanted o (yielded ops a.tmps) = true then Oper.wp P o a w K Q else E := by
  cases za with
  | none =>
    have hm : m = 0 := by
      cases m with
      | zero => rfl
      | succ m => obtain ⟨b, off, e, _⟩ := hI 0 (by omega); simp at e
    subst hm
    have hZ : Z = [] := List.eq_nil_of_length_eq_zero hl
    subst hZ
    exact step_append_run hgd s x t ho v _ v hs hx (run_append_none base t o.type 96 i 3 c ht hi v n xs hown) (h v w (by simpa [flatV] using hown) (World.grownBy.refl _ _) (.inl rfl))
  | some ad =>
    have hfl : (flatV swapC Z).length = m * 3 := by rw [flatV_length (k := 3) (fun _ => rfl), hl]
    have hnews : ∀ j u, (flatV swapC Z)[j]? = some u → w.cell? (ad.add j) = some u := by
      intro j u hj
      have hjl : j / 3 < Z.length := by
        obtain ⟨h1, _⟩ := List.getElem?_eq_some_iff.1 hj
        rw [hfl] at h1
        omega
      obtain ⟨b, off, e, hc0, hc1, hc2⟩ := hI (j / 3) hjl
      simp only [Option.some.injEq] at e
      subst e
      have hadd : (⟨b, off, none⟩ : Addr).add j = ⟨b, off + j, none⟩ := by unfold Addr.add; split <;> simp_all
      have hg := flatV_get (f := swapC) (k := 3) (fun _ => rfl) Z (0, 0, 0) (j / 3) (j % 3) hjl (by omega)
      rw [show j / 3 * 3 + j % 3 = j by omega, hj] at hg
      rw [hadd]
      rcases (by omega : j % 3 = 0 ∨ j % 3 = 1 ∨ j % 3 = 2) with e | e | e
      · rw [e] at hg
        rw [show off + j = off + j / 3 * 3 by omega, hc0]
        exact hg.symm
      · rw [e] at hg
        rw [show off + j = off + j / 3 * 3 + 1 by omega, hc1]
        exact hg.symm
      · rw [e] at hg
        rw [show off + j = off + j / 3 * 3 + 2 by omega, hc2]
        exact hg.symm
    obtain ⟨v', w', hr, h1, h2, -, h4⟩ := run_append_own_at (P := P) (w := w) base t o.type 96 i (.agg #[.int .u8 0, .int .i64 0, .int .i64 0]) 3 24 ht hi hz hsize hby rfl (by decide) v n xs hown ad m c (flatV swapC Z) hfl hnews (fun x hx => by
      obtain ⟨y, _, hy⟩ := List.mem_flatMap.1 hx
      simp only [swapC, List.mem_cons, List.not_mem_nil, or_false] at hy
      rcases hy with rfl | rfl | rfl <;> rfl) (by unfold maxLen; omega) (by omega) hbase
    exact step_append_run hgd s x t ho v _ v' hs hx hr (h v' w' h1 h2 h4)

theorem new_block (W : World) (o : Obj) : (W.alloc o).heap[W.heap.size]? = some o := by
  show (W.heap.push o)[W.heap.size]? = some o
  simp

theorem own_empty (W : World) (base : Nat) (h : base ≤ W.heap.size) : (W.alloc (.cells #[] 96)).ownsRow base 96 3 (.slice (some ⟨W.heap.size, 0, none⟩) 0 0) 0 [] :=
  ⟨rfl, .inr ⟨W.heap.size, 0, #[], rfl, h, new_block _ _, Nat.le_refl _, by unfold maxLen; omega, rfl, rfl⟩⟩

theorem req_lone {W : World} {B : List Tx} {k m mc : Nat} {ba : Option Addr} (hB : B.length = m) (hm : m ≤ maxLen) (hS : Strs W ba B) :
    ReqsAt (W.alloc (.cells #[.int .i64 5, .int .i64 0, .int .i64 0, .int .i64 (k : Int), .slice ba m mc] 87)) (some ⟨W.heap.size, 0, none⟩) [ask5 k B] := by
  intro i hi
  have hi0 : i = 0 := by simpa using hi
  subst hi0
  subst hB
  exact ⟨W.heap.size, 0, ba, mc, rfl, by simp [go_sem, ask5], by simp [go_sem, ask5], by simp [go_sem, ask5], by simp [go_sem, ask5], by simp [go_sem, ask5], hm, hS.grown (below_alloc _ _)⟩

theorem swaps_lone {W : World} {b : Nat} {s : Int × Int × Int} (h : W.heap[b]? = some (.cells #[.int .u8 s.1, .int .i64 s.2.1, .int .i64 s.2.2] 96)) : SwapsAt W (some ⟨b, 0, none⟩) [s] := by
  intro i hi
  have hi0 : i = 0 := by simpa using hi
  subst hi0
  exact ⟨b, 0, rfl, by simp [World.cell?, h], by simp [World.cell?, h], by simp [World.cell?, h]⟩

set_option linter.unusedSimpArgs false in
set_option maxRecDepth 100000 in
set_option maxHeartbeats 40000000 in
theorem mendTrouble_any (l : Lex) (a1 a2 a3 : Option Addr) (n1 n2 n3 c1 c2 c3 : Nat) (S : List (Int × Int × Int)) (sa : Option Addr) (sn sc : Nat) (A : List Tx) (n nc : Nat) (aa : Option Addr) (B : List Tx) (m mc : Nat) (ba : Option Addr) (mk mo mw : Int) (w : World)
    (h1 : l.nums.length = n1) (h2 : l.names.length = n2) (h3 : l.nots.length = n3) (hLx : LexAt w a1 a2 a3 l) (hs : S.length = sn) (hsn : sn ≤ maxLen) (hSw : SwapsAt w sa S) (hAl : A.length = n) (hn : n ≤ maxLen) (hA : Strs w aa A) (hBl : B.length = m) (hm : m ≤ maxLen) (hB2 : Strs w ba B) (hstd : Std w) :
    Calls Tryz.prog 11 #[.agg #[.slice a1 n1 c1, .slice a2 n2 c2, .slice a3 n3 c3], .slice sa sn sc, .slice aa n nc, .slice ba m mc, .agg #[.int .u8 mk, .int .i64 mo, .int .i64 mw]] w fun e w' => e = .returned (.bool true) ∧ Below w.heap.size w w' := by
  have H1 := hid h1; have H2 := hid h2; have H3 := hid h3; have HS := hid hs; have HA := hid hAl; have HB3 := hid hBl
  have HN1 := hid hn; have HN2 := hid hm; have HN3 := hid hsn
  clear h1 h2 h3 hs hAl hBl hn hm hsn
  obtain ⟨W0, hW0⟩ : ∃ W0, W0 = (w.alloc (.cells #[.slice a1 n1 c1, .slice a2 n2 c2, .slice a3 n3 c3] 26)).alloc (.cells #[.int .u8 mk, .int .i64 mo, .int .i64 mw] 96) := ⟨_, rfl⟩
  have hB0 : Below w.heap.size w W0 := by rw [hW0]; exact ((Below.refl _ w).alloc (Nat.le_refl _) _).alloc (by simp) _
  have x0 : W0.cell? ⟨w.heap.size, 0, none⟩ = some (.slice a1 n1 c1) := by rw [hW0]; simp [go_sem]
  have x1 : W0.cell? ⟨w.heap.size, 1, none⟩ = some (.slice a2 n2 c2) := by rw [hW0]; simp [go_sem]
  have x2 : W0.cell? ⟨w.heap.size, 2, none⟩ = some (.slice a3 n3 c3) := by rw [hW0]; simp [go_sem]
  have y0 : W0.cell? ⟨w.heap.size + 1, 0, none⟩ = some (.int .u8 mk) := by rw [hW0]; simp [go_sem]
  have y1 : W0.cell? ⟨w.heap.size + 1, 1, none⟩ = some (.int .i64 mo) := by rw [hW0]; simp [go_sem]
  have y2 : W0.cell? ⟨w.heap.size + 1, 2, none⟩ = some (.int .i64 mw) := by rw [hW0]; simp [go_sem]
  replace hLx := hLx.grown hB0
  replace hSw := hSw.grown hB0
  replace hA := hA.grown hB0
  replace hB2 := hB2.grown hB0
  replace hstd := hstd.grown hB0
  have HB := hid hB0
  clear hB0
  go_enter Tryz.func11, Tryz.ntmps11
  go_wp2_with fail
  rw [← hW0]
  clear hW0
  refine (thin_any l a1 a2 a3 sa n1 n2 n3 c1 c2 c3 sn sc W0 H1.out H2.out H3.out hLx).mono ?_
  rintro e w1 ⟨rfl, hb⟩
  replace HB := hid (below_then HB.out hb)
  replace x0 := cell_grown hb x0
  replace x1 := cell_grown hb x1
  replace x2 := cell_grown hb x2
  replace y0 := cell_grown hb y0
  replace y1 := cell_grown hb y1
  replace y2 := cell_grown hb y2
  replace hLx := hLx.grown hb
  replace hSw := hSw.grown hb
  replace hA := hA.grown hb
  replace hB2 := hB2.grown hb
  replace hstd := hstd.grown hb
  clear hb
  cases ht : thinM l sn
  · clear ht
    go_wp2_with fail
    refine (awake_any _ hstd).mono ?_
    rintro e wz ⟨rfl, hb⟩
    go_wp2
    go_ret
    exact ⟨rfl, below_then HB.out hb⟩
  have HT := hid (thin_ok ht).1
  have s25 := (thin_ok ht).2
  clear ht
  obtain ⟨q1, q2, q3⟩ := thin_sizes HT.out H1.out H2.out H3.out
  go_wp2_with fail
  refine (short_any A 90 n nc aa _ HA.out HN1.out hA).mono ?_
  rintro e w3 ⟨rfl, hb⟩
  replace HB := hid (below_then HB.out hb)
  replace x0 := cell_grown hb x0
  replace x1 := cell_grown hb x1
  replace x2 := cell_grown hb x2
  replace y0 := cell_grown hb y0
  replace y1 := cell_grown hb y1
  replace y2 := cell_grown hb y2
  replace hLx := hLx.grown hb
  replace hSw := hSw.grown hb
  replace hA := hA.grown hb
  replace hB2 := hB2.grown hb
  replace hstd := hstd.grown hb
  clear hb
  cases hs1 : shortM A 90
  · clear hs1
    go_wp2_with fail
    refine (awake_any _ hstd).mono ?_
    rintro e wz ⟨rfl, hb⟩
    go_wp2
    go_ret
    exact ⟨rfl, below_then HB.out hb⟩
  go_wp2_with fail
  refine (short_any B 90 m mc ba _ HB3.out HN2.out hB2).mono ?_
  rintro e w4 ⟨rfl, hb⟩
  replace HB := hid (below_then HB.out hb)
  replace x0 := cell_grown hb x0
  replace x1 := cell_grown hb x1
  replace x2 := cell_grown hb x2
  replace y0 := cell_grown hb y0
  replace y1 := cell_grown hb y1
  replace y2 := cell_grown hb y2
  replace hLx := hLx.grown hb
  replace hSw := hSw.grown hb
  replace hA := hA.grown hb
  replace hB2 := hB2.grown hb
  replace hstd := hstd.grown hb
  clear hb
  cases hs2 : shortM B 90
  · clear hs2
    go_wp2_with fail
    refine (awake_any _ hstd).mono ?_
    rintro e wz ⟨rfl, hb⟩
    go_wp2
    go_ret
    exact ⟨rfl, below_then HB.out hb⟩
  have qn : n ≤ 90 := by have := (short_ok hs1).1; rw [HA.out] at this; omega
  have qm : m ≤ 90 := by have := (short_ok hs2).1; rw [HB3.out] at this; omega
  have HSA := hid (short_ok hs1).2
  have HSB := hid (short_ok hs2).2
  clear hs1 hs2
  go_wp2_with fail
  refine (fault_any l a1 a2 a3 n1 n2 n3 c1 c2 c3 S sa sn sc _ H1.out H2.out H3.out HT.out hLx HS.out (by omega) hSw).mono ?_
  rintro e w2 ⟨rfl, hb⟩
  replace HB := hid (below_then HB.out hb)
  replace x0 := cell_grown hb x0
  replace x1 := cell_grown hb x1
  replace x2 := cell_grown hb x2
  replace y0 := cell_grown hb y0
  replace y1 := cell_grown hb y1
  replace y2 := cell_grown hb y2
  replace hLx := hLx.grown hb
  replace hSw := hSw.grown hb
  replace hA := hA.grown hb
  replace hB2 := hB2.grown hb
  replace hstd := hstd.grown hb
  clear hb
  obtain ⟨re, hre⟩ : ∃ z, readErr l S = z := ⟨_, rfl⟩
  rw [hre]
  by_cases hl0 : re = 0
  case neg =>
    have g : (re != 0) = true := by simpa using hl0
    go_wp2_with fail
    refine (awake_any _ hstd).mono ?_
    rintro e wz ⟨rfl, hb⟩
    go_wp2
    go_ret
    exact ⟨rfl, below_then HB.out hb⟩
  subst hl0
  have HRE := hid hre
  clear hre
  go_wp2_with fail
  refine (listed_any A n nc aa _ HA.out (by omega) hA (fun t ht => by have := HSA.out t ht; omega)).mono ?_
  rintro e w5 ⟨rfl, hb⟩
  replace HB := hid (below_then HB.out hb)
  replace x0 := cell_grown hb x0
  replace x1 := cell_grown hb x1
  replace x2 := cell_grown hb x2
  replace y0 := cell_grown hb y0
  replace y1 := cell_grown hb y1
  replace y2 := cell_grown hb y2
  replace hLx := hLx.grown hb
  replace hSw := hSw.grown hb
  replace hA := hA.grown hb
  replace hB2 := hB2.grown hb
  replace hstd := hstd.grown hb
  clear hb
  obtain ⟨la, hla⟩ : ∃ z, listedM A = z := ⟨_, rfl⟩
  rw [hla]
  by_cases hl0 : la = 0
  case neg =>
    have g : (la != 0) = true := by simpa using hl0
    go_wp2_with fail
    refine (awake_any _ hstd).mono ?_
    rintro e wz ⟨rfl, hb⟩
    go_wp2
    go_ret
    exact ⟨rfl, below_then HB.out hb⟩
  subst hl0
  go_wp2_with fail
  refine (listed_any B m mc ba _ HB3.out (by omega) hB2 (fun t ht => by have := HSB.out t ht; omega)).mono ?_
  rintro e w6 ⟨rfl, hb⟩
  replace HB := hid (below_then HB.out hb)
  replace x0 := cell_grown hb x0
  replace x1 := cell_grown hb x1
  replace x2 := cell_grown hb x2
  replace y0 := cell_grown hb y0
  replace y1 := cell_grown hb y1
  replace y2 := cell_grown hb y2
  replace hLx := hLx.grown hb
  replace hSw := hSw.grown hb
  replace hA := hA.grown hb
  replace hB2 := hB2.grown hb
  replace hstd := hstd.grown hb
  clear hb
  obtain ⟨lb, hlb⟩ : ∃ z, listedM B = z := ⟨_, rfl⟩
  rw [hlb]
  by_cases hl0 : lb = 0
  case neg =>
    have g : (lb != 0) = true := by simpa using hl0
    go_wp2_with fail
    refine (awake_any _ hstd).mono ?_
    rintro e wz ⟨rfl, hb⟩
    go_wp2
    go_ret
    exact ⟨rfl, below_then HB.out hb⟩
  subst hl0
  have HOA := hid (listed_ok hla)
  have HOB := hid (listed_ok hlb)
  clear hla hlb
  have n80 : n ≤ 80 := by have := HOA.out.1; rw [HA.out] at this; exact this
  have m80 : m ≤ 80 := by have := HOB.out.1; rw [HB3.out] at this; exact this
  have HT1 := hid (trouble_fine HRE.out HOA.out.1 HOA.out.2 HOB.out.1 HOB.out.2)
  have HT2 := hid (trouble_fine (read_nil0 HRE.out) HOA.out.1 HOA.out.2 HOB.out.1 HOB.out.2)
  have HT3 := hid (trouble_fine (read_nil0 HRE.out) HOB.out.1 HOB.out.2 HOA.out.1 HOA.out.2)
  have HE1 : Hid (senseErr l A = 0) := hid (sense_fine (lex_of_read HRE.out).1 HOA.out.1 HOA.out.2)
  have HE2 : Hid (senseErr l B = 0) := hid (sense_fine (lex_of_read HRE.out).1 HOB.out.1 HOB.out.2)
  obtain ⟨MA, hMA⟩ : ∃ M, senseM (entries l) A = M := ⟨_, rfl⟩
  obtain ⟨MB, hMB⟩ : ∃ M, senseM (entries l) B = M := ⟨_, rfl⟩
  obtain ⟨na, hna⟩ : ∃ k, MA.length = k := ⟨_, rfl⟩
  obtain ⟨nb, hnb⟩ : ∃ k, MB.length = k := ⟨_, rfl⟩
  have HMA := hid hMA
  have HMB := hid hMB
  have HNA := hid hna
  have HNB := hid hnb
  have na80 : na ≤ 80 := by rw [← hna, ← hMA]; have := senseM_length (entries l) A; rw [HA.out] at this; omega
  have nb80 : nb ≤ 80 := by rw [← hnb, ← hMB]; have := senseM_length (entries l) B; rw [HB3.out] at this; omega
  have t1 := trouble_more (S := []) (T := S) (fun s hs => by cases hs) MA MB
  have t2 := trouble_most S MA MB
  have t3 := trouble_most [] MA MB
  have t4 := trouble_turned MB MA
  rw [hMA, hMB] at HT1 HT2 HT3
  rw [t4] at HT3
  rw [hna, hnb] at t2 t3
  obtain ⟨x, hx⟩ : ∃ x, troubleM [] MA MB = x := ⟨_, rfl⟩
  obtain ⟨y, hy⟩ : ∃ x, troubleM S MA MB = x := ⟨_, rfl⟩
  rw [hx] at HT2 HT3 t1 t3
  rw [hy] at HT1 t1 t2
  have HX := hid hx
  have HY := hid hy
  clear hMA hMB hna hnb hx hy t4
  go_wp2_with fail
  refine (lexicon_any l a1 a2 a3 n1 n2 n3 c1 c2 c3 _ H1.out H2.out H3.out q1 q2 q3 (fun N hN => by have := HT.out.m2 N hN; omega) hLx).mono ?_
  rintro e wa1 ⟨b1, b2, b3, d1, d2, d3, rfl, hl3, hb⟩
  replace HB := hid (below_then HB.out hb)
  replace x0 := cell_grown hb x0
  replace x1 := cell_grown hb x1
  replace x2 := cell_grown hb x2
  replace y0 := cell_grown hb y0
  replace y1 := cell_grown hb y1
  replace y2 := cell_grown hb y2
  replace hLx := hLx.grown hb
  replace hSw := hSw.grown hb
  replace hA := hA.grown hb
  replace hB2 := hB2.grown hb
  replace hstd := hstd.grown hb
  clear hb
  go_wp2_with fail
  refine (swaps_any S sn sc sa _ HS.out (by omega) hSw).mono ?_
  rintro e wt1 ⟨ta, tc, rfl, hT5, hb⟩
  replace HB := hid (below_then HB.out hb)
  replace x0 := cell_grown hb x0
  replace x1 := cell_grown hb x1
  replace x2 := cell_grown hb x2
  replace y0 := cell_grown hb y0
  replace y1 := cell_grown hb y1
  replace y2 := cell_grown hb y2
  replace hLx := hLx.grown hb
  replace hSw := hSw.grown hb
  replace hA := hA.grown hb
  replace hB2 := hB2.grown hb
  replace hstd := hstd.grown hb
  replace hl3 := hl3.grown hb
  clear hb
  go_wp2_with fail
  refine (copy_any A n nc aa _ HA.out (by omega) hA).mono ?_
  rintro e wb1p ⟨rp, sp, rfl, hown, hSp, hb⟩
  replace HB := hid (below_then HB.out hb)
  replace x0 := cell_grown hb x0
  replace x1 := cell_grown hb x1
  replace x2 := cell_grown hb x2
  replace y0 := cell_grown hb y0
  replace y1 := cell_grown hb y1
  replace y2 := cell_grown hb y2
  replace hLx := hLx.grown hb
  replace hSw := hSw.grown hb
  replace hA := hA.grown hb
  replace hB2 := hB2.grown hb
  replace hstd := hstd.grown hb
  replace hl3 := hl3.grown hb
  replace hT5 := hT5.grown hb
  clear hb
  clear hown
  go_wp2_with fail
  refine (copy_any B m mc ba _ HB3.out (by omega) hB2).mono ?_
  rintro e wb1q ⟨rq, sq, rfl, hown, hSq, hb⟩
  replace HB := hid (below_then HB.out hb)
  replace x0 := cell_grown hb x0
  replace x1 := cell_grown hb x1
  replace x2 := cell_grown hb x2
  replace y0 := cell_grown hb y0
  replace y1 := cell_grown hb y1
  replace y2 := cell_grown hb y2
  replace hLx := hLx.grown hb
  replace hSw := hSw.grown hb
  replace hA := hA.grown hb
  replace hB2 := hB2.grown hb
  replace hstd := hstd.grown hb
  replace hl3 := hl3.grown hb
  replace hT5 := hT5.grown hb
  replace hSp := hSp.grown hb
  clear hb
  clear hown
  go_wp2_with fail
  refine (troubleF_any l b1 b2 b3 n1 n2 n3 d1 d2 d3 S ta sn tc A B n m sp sq rp rq _ H1.out H2.out H3.out hl3 HS.out (by unfold maxLen; omega) hT5 HA.out (by unfold maxLen; omega) hSp HB3.out (by unfold maxLen; omega) hSq hstd).mono ?_
  rintro e wc1 ⟨rfl, hb⟩
  rw [HT1.out.1, HT1.out.2]
  replace HB := hid (below_then HB.out hb)
  replace x0 := cell_grown hb x0
  replace x1 := cell_grown hb x1
  replace x2 := cell_grown hb x2
  replace y0 := cell_grown hb y0
  replace y1 := cell_grown hb y1
  replace y2 := cell_grown hb y2
  replace hLx := hLx.grown hb
  replace hSw := hSw.grown hb
  replace hA := hA.grown hb
  replace hB2 := hB2.grown hb
  replace hstd := hstd.grown hb
  clear hb
  clear hSp hSq hl3 hT5
  go_wp2_with fail
  refine (lexicon_any l a1 a2 a3 n1 n2 n3 c1 c2 c3 _ H1.out H2.out H3.out q1 q2 q3 (fun N hN => by have := HT.out.m2 N hN; omega) hLx).mono ?_
  rintro e wa2 ⟨b1, b2, b3, d1, d2, d3, rfl, hl3, hb⟩
  replace HB := hid (below_then HB.out hb)
  replace x0 := cell_grown hb x0
  replace x1 := cell_grown hb x1
  replace x2 := cell_grown hb x2
  replace y0 := cell_grown hb y0
  replace y1 := cell_grown hb y1
  replace y2 := cell_grown hb y2
  replace hLx := hLx.grown hb
  replace hSw := hSw.grown hb
  replace hA := hA.grown hb
  replace hB2 := hB2.grown hb
  replace hstd := hstd.grown hb
  clear hb
  go_wp2_with fail
  refine (copy_any A n nc aa _ HA.out (by omega) hA).mono ?_
  rintro e wb2p ⟨rp, sp, rfl, hown, hSp, hb⟩
  replace HB := hid (below_then HB.out hb)
  replace x0 := cell_grown hb x0
  replace x1 := cell_grown hb x1
  replace x2 := cell_grown hb x2
  replace y0 := cell_grown hb y0
  replace y1 := cell_grown hb y1
  replace y2 := cell_grown hb y2
  replace hLx := hLx.grown hb
  replace hSw := hSw.grown hb
  replace hA := hA.grown hb
  replace hB2 := hB2.grown hb
  replace hstd := hstd.grown hb
  replace hl3 := hl3.grown hb
  clear hb
  clear hown
  go_wp2_with fail
  refine (copy_any B m mc ba _ HB3.out (by omega) hB2).mono ?_
  rintro e wb2q ⟨rq, sq, rfl, hown, hSq, hb⟩
  replace HB := hid (below_then HB.out hb)
  replace x0 := cell_grown hb x0
  replace x1 := cell_grown hb x1
  replace x2 := cell_grown hb x2
  replace y0 := cell_grown hb y0
  replace y1 := cell_grown hb y1
  replace y2 := cell_grown hb y2
  replace hLx := hLx.grown hb
  replace hSw := hSw.grown hb
  replace hA := hA.grown hb
  replace hB2 := hB2.grown hb
  replace hstd := hstd.grown hb
  replace hl3 := hl3.grown hb
  replace hSp := hSp.grown hb
  clear hb
  clear hown
  go_wp2_with fail
  refine (troubleF_any l b1 b2 b3 n1 n2 n3 d1 d2 d3 [] none 0 0 A B n m sp sq rp rq _ H1.out H2.out H3.out hl3 rfl (by unfold maxLen; omega) (fun i hi => by cases hi) HA.out (by unfold maxLen; omega) hSp HB3.out (by unfold maxLen; omega) hSq hstd).mono ?_
  rintro e wc2 ⟨rfl, hb⟩
  rw [HT2.out.1, HT2.out.2]
  replace HB := hid (below_then HB.out hb)
  replace x0 := cell_grown hb x0
  replace x1 := cell_grown hb x1
  replace x2 := cell_grown hb x2
  replace y0 := cell_grown hb y0
  replace y1 := cell_grown hb y1
  replace y2 := cell_grown hb y2
  replace hLx := hLx.grown hb
  replace hSw := hSw.grown hb
  replace hA := hA.grown hb
  replace hB2 := hB2.grown hb
  replace hstd := hstd.grown hb
  clear hb
  clear hSp hSq hl3
  go_wp2_with fail
  refine (lexicon_any l a1 a2 a3 n1 n2 n3 c1 c2 c3 _ H1.out H2.out H3.out q1 q2 q3 (fun N hN => by have := HT.out.m2 N hN; omega) hLx).mono ?_
  rintro e wa3 ⟨b1, b2, b3, d1, d2, d3, rfl, hl3, hb⟩
  replace HB := hid (below_then HB.out hb)
  replace x0 := cell_grown hb x0
  replace x1 := cell_grown hb x1
  replace x2 := cell_grown hb x2
  replace y0 := cell_grown hb y0
  replace y1 := cell_grown hb y1
  replace y2 := cell_grown hb y2
  replace hLx := hLx.grown hb
  replace hSw := hSw.grown hb
  replace hA := hA.grown hb
  replace hB2 := hB2.grown hb
  replace hstd := hstd.grown hb
  clear hb
  go_wp2_with fail
  refine (copy_any B m mc ba _ HB3.out (by omega) hB2).mono ?_
  rintro e wb3p ⟨rp, sp, rfl, hown, hSp, hb⟩
  replace HB := hid (below_then HB.out hb)
  replace x0 := cell_grown hb x0
  replace x1 := cell_grown hb x1
  replace x2 := cell_grown hb x2
  replace y0 := cell_grown hb y0
  replace y1 := cell_grown hb y1
  replace y2 := cell_grown hb y2
  replace hLx := hLx.grown hb
  replace hSw := hSw.grown hb
  replace hA := hA.grown hb
  replace hB2 := hB2.grown hb
  replace hstd := hstd.grown hb
  replace hl3 := hl3.grown hb
  clear hb
  clear hown
  go_wp2_with fail
  refine (copy_any A n nc aa _ HA.out (by omega) hA).mono ?_
  rintro e wb3q ⟨rq, sq, rfl, hown, hSq, hb⟩
  replace HB := hid (below_then HB.out hb)
  replace x0 := cell_grown hb x0
  replace x1 := cell_grown hb x1
  replace x2 := cell_grown hb x2
  replace y0 := cell_grown hb y0
  replace y1 := cell_grown hb y1
  replace y2 := cell_grown hb y2
  replace hLx := hLx.grown hb
  replace hSw := hSw.grown hb
  replace hA := hA.grown hb
  replace hB2 := hB2.grown hb
  replace hstd := hstd.grown hb
  replace hl3 := hl3.grown hb
  replace hSp := hSp.grown hb
  clear hb
  clear hown
  go_wp2_with fail
  refine (troubleF_any l b1 b2 b3 n1 n2 n3 d1 d2 d3 [] none 0 0 B A m n sp sq rp rq _ H1.out H2.out H3.out hl3 rfl (by unfold maxLen; omega) (fun i hi => by cases hi) HB3.out (by unfold maxLen; omega) hSp HA.out (by unfold maxLen; omega) hSq hstd).mono ?_
  rintro e wc3 ⟨rfl, hb⟩
  rw [HT3.out.1, HT3.out.2]
  replace HB := hid (below_then HB.out hb)
  replace x0 := cell_grown hb x0
  replace x1 := cell_grown hb x1
  replace x2 := cell_grown hb x2
  replace y0 := cell_grown hb y0
  replace y1 := cell_grown hb y1
  replace y2 := cell_grown hb y2
  replace hLx := hLx.grown hb
  replace hSw := hSw.grown hb
  replace hA := hA.grown hb
  replace hB2 := hB2.grown hb
  replace hstd := hstd.grown hb
  clear hb
  clear hSp hSq hl3
  go_wp2_with fail
  refine (lexicon_any l a1 a2 a3 n1 n2 n3 c1 c2 c3 _ H1.out H2.out H3.out q1 q2 q3 (fun N hN => by have := HT.out.m2 N hN; omega) hLx).mono ?_
  rintro e wa4 ⟨b1, b2, b3, d1, d2, d3, rfl, hl3, hb⟩
  replace HB := hid (below_then HB.out hb)
  replace x0 := cell_grown hb x0
  replace x1 := cell_grown hb x1
  replace x2 := cell_grown hb x2
  replace y0 := cell_grown hb y0
  replace y1 := cell_grown hb y1
  replace y2 := cell_grown hb y2
  replace hLx := hLx.grown hb
  replace hSw := hSw.grown hb
  replace hA := hA.grown hb
  replace hB2 := hB2.grown hb
  replace hstd := hstd.grown hb
  clear hb
  go_wp2_with fail
  refine (copy_any A n nc aa _ HA.out (by omega) hA).mono ?_
  rintro e wb4p ⟨rp, sp, rfl, hown, hSp, hb⟩
  replace HB := hid (below_then HB.out hb)
  replace x0 := cell_grown hb x0
  replace x1 := cell_grown hb x1
  replace x2 := cell_grown hb x2
  replace y0 := cell_grown hb y0
  replace y1 := cell_grown hb y1
  replace y2 := cell_grown hb y2
  replace hLx := hLx.grown hb
  replace hSw := hSw.grown hb
  replace hA := hA.grown hb
  replace hB2 := hB2.grown hb
  replace hstd := hstd.grown hb
  replace hl3 := hl3.grown hb
  clear hb
  clear hown
  go_wp2_with fail
  refine (senseF_any l b1 b2 b3 n1 n2 n3 d1 d2 d3 A n sp rp _ H1.out H2.out H3.out hl3 HA.out (by unfold maxLen; omega) hSp hstd).mono ?_
  rintro e wc4 ⟨hb, he⟩
  rw [if_pos HE1.out] at he
  obtain ⟨va4, vc4, rfl, hown⟩ := he
  replace HB := hid (below_then HB.out hb)
  replace x0 := cell_grown hb x0
  replace x1 := cell_grown hb x1
  replace x2 := cell_grown hb x2
  replace y0 := cell_grown hb y0
  replace y1 := cell_grown hb y1
  replace y2 := cell_grown hb y2
  replace hLx := hLx.grown hb
  replace hSw := hSw.grown hb
  replace hA := hA.grown hb
  replace hB2 := hB2.grown hb
  replace hstd := hstd.grown hb
  clear hb
  clear hown hSp hl3
  go_wp2_with fail
  refine (lexicon_any l a1 a2 a3 n1 n2 n3 c1 c2 c3 _ H1.out H2.out H3.out q1 q2 q3 (fun N hN => by have := HT.out.m2 N hN; omega) hLx).mono ?_
  rintro e wa5 ⟨b1, b2, b3, d1, d2, d3, rfl, hl3, hb⟩
  replace HB := hid (below_then HB.out hb)
  replace x0 := cell_grown hb x0
  replace x1 := cell_grown hb x1
  replace x2 := cell_grown hb x2
  replace y0 := cell_grown hb y0
  replace y1 := cell_grown hb y1
  replace y2 := cell_grown hb y2
  replace hLx := hLx.grown hb
  replace hSw := hSw.grown hb
  replace hA := hA.grown hb
  replace hB2 := hB2.grown hb
  replace hstd := hstd.grown hb
  clear hb
  go_wp2_with fail
  refine (copy_any B m mc ba _ HB3.out (by omega) hB2).mono ?_
  rintro e wb5p ⟨rp, sp, rfl, hown, hSp, hb⟩
  replace HB := hid (below_then HB.out hb)
  replace x0 := cell_grown hb x0
  replace x1 := cell_grown hb x1
  replace x2 := cell_grown hb x2
  replace y0 := cell_grown hb y0
  replace y1 := cell_grown hb y1
  replace y2 := cell_grown hb y2
  replace hLx := hLx.grown hb
  replace hSw := hSw.grown hb
  replace hA := hA.grown hb
  replace hB2 := hB2.grown hb
  replace hstd := hstd.grown hb
  replace hl3 := hl3.grown hb
  clear hb
  clear hown
  go_wp2_with fail
  refine (senseF_any l b1 b2 b3 n1 n2 n3 d1 d2 d3 B m sp rp _ H1.out H2.out H3.out hl3 HB3.out (by unfold maxLen; omega) hSp hstd).mono ?_
  rintro e wc5 ⟨hb, he⟩
  rw [if_pos HE2.out] at he
  obtain ⟨va5, vc5, rfl, hown⟩ := he
  replace HB := hid (below_then HB.out hb)
  replace x0 := cell_grown hb x0
  replace x1 := cell_grown hb x1
  replace x2 := cell_grown hb x2
  replace y0 := cell_grown hb y0
  replace y1 := cell_grown hb y1
  replace y2 := cell_grown hb y2
  replace hLx := hLx.grown hb
  replace hSw := hSw.grown hb
  replace hA := hA.grown hb
  replace hB2 := hB2.grown hb
  replace hstd := hstd.grown hb
  clear hb
  clear hown hSp hl3
  rw [HMA.out, HMB.out, HNA.out, HNB.out]
  clear HT1 HT2 HT3 HE1 HE2
  have gx1 : (x != x) = false := by simp
  have gx2 : decide (x < y) = false := by rw [decide_eq_false_iff_not]; omega
  have gx3 : decide (max (na : Int) (nb : Int) < x) = false := by rw [decide_eq_false_iff_not]; omega
  have gw1 : IntKind.i64.wrap ((na : Int) - (nb : Int)) = (na : Int) - (nb : Int) := by rw [IntKind.wrap_i64]; omega
  have gw2 : IntKind.i64.wrap ((nb : Int) - (na : Int)) = (nb : Int) - (na : Int) := by rw [IntKind.wrap_i64]; omega
  have gx4 : decide (y < max ((na : Int) - (nb : Int)) ((nb : Int) - (na : Int))) = false := by rw [decide_eq_false_iff_not]; omega
  go_upto_region 12 with fail
  clear gx1 gx2 gx3 gx4 gw1 gw2
  obtain ⟨i96, hi96, hz60, hz61, hz62⟩ := info_parts Tryz.info96w
  obtain ⟨Wm, hWm⟩ : ∃ W, W = wc5 := ⟨_, rfl⟩
  rw [← hWm] at x0 x1 x2 y0 y1 y2 hLx hSw hA hB2 hstd HB ⊢
  clear hWm
  go_cut [21] (fun v wx => ∃ ta tc, v = .slice ta (sn + 1) tc ∧ SwapsAt wx ta (S ++ [(mk, mo, mw)]) ∧ Below Wm.heap.size Wm wx)
  case first =>
    as_aux_lemma =>
      have Y := hid (And.intro y0 (And.intro y1 y2))
      have hbZ : Below Wm.heap.size Wm Wm.drew := (Below.refl _ _).drew
      have hbA : Below Wm.heap.size Wm (Wm.alloc (.cells #[] 96)).drew := ((Below.refl _ Wm).alloc (Nat.le_refl _) _).drew
      have hbC : Below Wm.heap.size Wm (Wm.alloc (.cells #[.int .u8 mk, .int .i64 mo, .int .i64 mw] 96)).drew := ((Below.refl _ Wm).alloc (Nat.le_refl _) _).drew
      have hbB : Below Wm.heap.size Wm ((Wm.alloc (.cells #[] 96)).alloc (.cells #[.int .u8 mk, .int .i64 mo, .int .i64 mw] 96)).drew := (((Below.refl _ Wm).alloc (Nat.le_refl _) _).alloc (by simp) _).drew
      have hbD : Below Wm.heap.size Wm ((Wm.alloc (.cells #[.int .u8 mk, .int .i64 mo, .int .i64 mw] 96)).alloc (.cells #[] 96)).drew := (((Below.refl _ Wm).alloc (Nat.le_refl _) _).alloc (by simp) _).drew
      have hb7 := hbZ
      have hb7a := hbZ
      have hb9 := hbZ
      have hE0 := own_empty Wm Wm.heap.size (Nat.le_refl _)
      have hE1 : (Wm.alloc (.cells #[] 96)).drew.ownsRow Wm.heap.size 96 3 (.slice (some ⟨Wm.heap.size, 0, none⟩) 0 0) 0 [] := hE0
      have hE2 : ((Wm.alloc (.cells #[] 96)).alloc (.cells #[.int .u8 mk, .int .i64 mo, .int .i64 mw] 96)).drew.ownsRow Wm.heap.size 96 3 (.slice (some ⟨Wm.heap.size, 0, none⟩) 0 0) 0 [] := hE0.alloc (.cells #[.int .u8 mk, .int .i64 mo, .int .i64 mw] 96)
      have hE3 : ((Wm.alloc (.cells #[.int .u8 mk, .int .i64 mo, .int .i64 mw] 96)).alloc (.cells #[] 96)).drew.ownsRow Wm.heap.size 96 3 (.slice (some ⟨Wm.heap.size + 1, 0, none⟩) 0 0) 0 [] := by
        have h := own_empty (Wm.alloc (.cells #[.int .u8 mk, .int .i64 mo, .int .i64 mw] 96)) Wm.heap.size (by simp)
        rw [World.size_alloc] at h
        exact h
      have hMB : ((Wm.alloc (.cells #[] 96)).alloc (.cells #[.int .u8 mk, .int .i64 mo, .int .i64 mw] 96)).drew.heap[Wm.heap.size + 1]? = some (.cells #[.int .u8 mk, .int .i64 mo, .int .i64 mw] 96) := by
        have h := new_block (Wm.alloc (.cells #[] 96)) (.cells #[.int .u8 mk, .int .i64 mo, .int .i64 mw] 96)
        rw [World.size_alloc] at h
        exact h
      have hMD : ((Wm.alloc (.cells #[.int .u8 mk, .int .i64 mo, .int .i64 mw] 96)).alloc (.cells #[] 96)).drew.heap[Wm.heap.size]? = some (.cells #[.int .u8 mk, .int .i64 mo, .int .i64 mw] 96) := by
        have h := new_block Wm (.cells #[.int .u8 mk, .int .i64 mo, .int .i64 mw] 96)
        rw [← RowKit.Below.heap_alloc (Wm.alloc (.cells #[.int .u8 mk, .int .i64 mo, .int .i64 mw] 96)) (.cells #[] 96) _ (by simp)] at h
        exact h
      go_wp2_with fail
      go_region_held3 (fun w' : World => w'.cell? ⟨w.heap.size + 1, 0, none⟩ = some (.int .u8 mk) ∧ w'.cell? ⟨w.heap.size + 1, 1, none⟩ = some (.int .i64 mo) ∧ w'.cell? ⟨w.heap.size + 1, 2, none⟩ = some (.int .i64 mw)) (first | with_reducible exact ⟨cell_grown hbZ Y.out.1, cell_grown hbZ Y.out.2.1, cell_grown hbZ Y.out.2.2⟩ | with_reducible exact ⟨cell_grown hbA Y.out.1, cell_grown hbA Y.out.2.1, cell_grown hbA Y.out.2.2⟩ | with_reducible exact ⟨cell_grown hbB Y.out.1, cell_grown hbB Y.out.2.1, cell_grown hbB Y.out.2.2⟩ | with_reducible exact ⟨cell_grown hbC Y.out.1, cell_grown hbC Y.out.2.1, cell_grown hbC Y.out.2.2⟩ | with_reducible exact ⟨cell_grown hbD Y.out.1, cell_grown hbD Y.out.2.1, cell_grown hbD Y.out.2.2⟩ | with_reducible exact ⟨cell_grown hb7 Y.out.1, cell_grown hb7 Y.out.2.1, cell_grown hb7 Y.out.2.2⟩ | with_reducible exact ⟨cell_grown hb7a Y.out.1, cell_grown hb7a Y.out.2.1, cell_grown hb7a Y.out.2.2⟩ | with_reducible exact ⟨cell_grown hb9 Y.out.1, cell_grown hb9 Y.out.2.1, cell_grown hb9 Y.out.2.2⟩) (first | (refine step_append_swaps rfl _ _ 46 rfl Wm.heap.size i96 Tryz.underlying46 hi96 hz60 hz61 hz62 (.slice (some ⟨Wm.heap.size, 0, none⟩) 0 0) 0 [] rfl hE1 sa sn sc S rfl HS.out (hSw.grown hbA) (by omega) hbA.size ?_; intro v7 w7 hown7 hg7 hat7; have hb7 := Below.grown hbA hg7 hbA.size (fun j hj => (hE1.lt j hj).1); have hz7 := hb7.size; have hb7a := hb7.alloc hz7 (.cells #[.int .u8 mk, .int .i64 mo, .int .i64 mw] 96); have hsL : SwapsAt (w7.alloc (.cells #[.int .u8 mk, .int .i64 mo, .int .i64 mw] 96)) (some ⟨w7.heap.size, 0, none⟩) [(mk, mo, mw)] := swaps_lone (new_block _ _); have hown8 := hown7.alloc (.cells #[.int .u8 mk, .int .i64 mo, .int .i64 mw] 96)) | (refine step_append_swaps rfl _ _ 46 rfl Wm.heap.size i96 Tryz.underlying46 hi96 hz60 hz61 hz62 (.slice (some ⟨Wm.heap.size, 0, none⟩) 0 0) 0 [] rfl hE2 sa sn sc S rfl HS.out (hSw.grown hbB) (by omega) hbB.size ?_; intro v7 w7 hown7 hg7 hat7; have hb7 := Below.grown hbB hg7 hbB.size (fun j hj => (hE2.lt j hj).1); have hz7 := hb7.size; have hb7a := hb7.alloc hz7 (.cells #[.int .u8 mk, .int .i64 mo, .int .i64 mw] 96); have hsL : SwapsAt w7 (some ⟨Wm.heap.size + 1, 0, none⟩) [(mk, mo, mw)] := swaps_lone ((hg7.block _ (by simp) (by simp [Value.ownBlock])).trans hMB)) | (refine step_append_swaps rfl _ _ 46 rfl Wm.heap.size i96 Tryz.underlying46 hi96 hz60 hz61 hz62 (.slice (some ⟨Wm.heap.size + 1, 0, none⟩) 0 0) 0 [] rfl hE3 sa sn sc S rfl HS.out (hSw.grown hbD) (by omega) hbD.size ?_; intro v7 w7 hown7 hg7 hat7; have hb7 := Below.grown hbD hg7 hbD.size (fun j hj => (hE3.lt j hj).1); have hz7 := hb7.size; have hb7a := hb7.alloc hz7 (.cells #[.int .u8 mk, .int .i64 mo, .int .i64 mw] 96); have hsL : SwapsAt w7 (some ⟨Wm.heap.size, 0, none⟩) [(mk, mo, mw)] := swaps_lone ((hg7.block _ (by simp; omega) (by simp [Value.ownBlock])).trans hMD)) | (refine step_append_swaps rfl _ _ 46 rfl Wm.heap.size i96 Tryz.underlying46 hi96 hz60 hz61 hz62 _ (0 + sn) _ rfl hown8 _ 1 1 [(mk, mo, mw)] rfl rfl hsL (by omega) hb7a.size ?_; intro v9 w9 hown9 hg9 hat9; have hb9 := Below.grown hb7a hg9 hb7a.size (fun j hj => (hown8.lt j hj).1)) | (refine step_append_swaps rfl _ _ 46 rfl Wm.heap.size i96 Tryz.underlying46 hi96 hz60 hz61 hz62 _ (0 + sn) _ rfl hown7 _ 1 1 [(mk, mo, mw)] rfl rfl hsL (by omega) hb7.size ?_; intro v9 w9 hown9 hg9 hat9; have hb9 := Below.grown hb7 hg9 hb7.size (fun j hj => (hown7.lt j hj).1)))
      all_goals
        obtain ⟨ta, tc, rfl⟩ := owns_shape hown9
        have hSA : SwapsAt w9 ta (S ++ [(mk, mo, mw)]) := swaps_of_ownsN (base := Wm.heap.size) (e := 96) (cap := tc) (by rw [flatV_append]; simpa using hown9) (by simp [HS.out])
        go_wp2_with fail
        go_meet
        case rel => exact ⟨ta, tc, by rw [Nat.zero_add], hSA, hb9⟩
  case rest =>
    obtain ⟨ta, tc, rfl, hSA, hbc⟩ := hcut
    replace HB := hid (below_then HB.out hbc)
    replace x0 := cell_grown hbc x0
    replace x1 := cell_grown hbc x1
    replace x2 := cell_grown hbc x2
    replace y0 := cell_grown hbc y0
    replace y1 := cell_grown hbc y1
    replace y2 := cell_grown hbc y2
    replace hLx := hLx.grown hbc
    replace hSw := hSw.grown hbc
    replace hA := hA.grown hbc
    replace hB2 := hB2.grown hbc
    replace hstd := hstd.grown hbc
    clear hbc
    have HST : Hid ((S ++ [(mk, mo, mw)]).length = sn + 1) := hid (by rw [List.length_append, HS.out]; rfl)
    go_wp2_with fail
    refine (swapsFault_any (S ++ [(mk, mo, mw)]) (sn + 1) tc ta _ HST.out (by omega) hSA).mono ?_
    rintro e wn9 ⟨rfl, rfl⟩
    obtain ⟨se, hse⟩ : ∃ z, swapsErr (S ++ [(mk, mo, mw)]) = z := ⟨_, rfl⟩
    rw [hse]
    have HSE := hid hse
    clear hse
    go_upto_if 165 with fail
    obtain ⟨Wy, hWy⟩ : ∃ W, W = wc := ⟨_, rfl⟩
    rw [← hWy] at x0 x1 x2 y0 y1 y2 hLx hSw hA hB2 hstd HB hSA ⊢
    clear hWy
    go_cut [] (fun wx => Below Wy.heap.size Wy wx)
    case first =>
      as_aux_lemma =>
        clear HB
        have HB := hid (Below.refl Wy.heap.size Wy)
        by_cases h0 : se = 0
        · have HT6 := hid (trouble_fine (read_more HRE.out (by rw [HSE.out]; exact h0)) HOA.out.1 HOA.out.2 HOB.out.1 HOB.out.2)
          have t6 := trouble_more (S := S) (T := S ++ [(mk, mo, mw)]) (fun s hs => by simp [hs]) MA MB
          rw [HMA.out, HMB.out] at HT6
          rw [HY.out] at t6
          obtain ⟨y6, hy6⟩ : ∃ x, troubleM (S ++ [(mk, mo, mw)]) MA MB = x := ⟨_, rfl⟩
          rw [hy6] at HT6 t6
          clear hy6
          have g6 : decide (y < y6) = false := by rw [decide_eq_false_iff_not]; omega
          subst h0
          go_wp2_with fail
          refine (lexicon_any l a1 a2 a3 n1 n2 n3 c1 c2 c3 _ H1.out H2.out H3.out q1 q2 q3 (fun N hN => by have := HT.out.m2 N hN; omega) hLx).mono ?_
          rintro e wa6 ⟨b1, b2, b3, d1, d2, d3, rfl, hl3, hb⟩
          replace HB := hid (below_then HB.out hb)
          replace x0 := cell_grown hb x0
          replace x1 := cell_grown hb x1
          replace x2 := cell_grown hb x2
          replace y0 := cell_grown hb y0
          replace y1 := cell_grown hb y1
          replace y2 := cell_grown hb y2
          replace hLx := hLx.grown hb
          replace hSw := hSw.grown hb
          replace hA := hA.grown hb
          replace hB2 := hB2.grown hb
          replace hstd := hstd.grown hb
          replace hSA := hSA.grown hb
          clear hb
          go_wp2_with fail
          refine (swaps_any (S ++ [(mk, mo, mw)]) (sn + 1) tc ta _ HST.out (by omega) hSA).mono ?_
          rintro e wt6 ⟨tb, td, rfl, hT5, hb⟩
          replace HB := hid (below_then HB.out hb)
          replace x0 := cell_grown hb x0
          replace x1 := cell_grown hb x1
          replace x2 := cell_grown hb x2
          replace y0 := cell_grown hb y0
          replace y1 := cell_grown hb y1
          replace y2 := cell_grown hb y2
          replace hLx := hLx.grown hb
          replace hSw := hSw.grown hb
          replace hA := hA.grown hb
          replace hB2 := hB2.grown hb
          replace hstd := hstd.grown hb
          replace hl3 := hl3.grown hb
          clear hb
          go_wp2_with fail
          refine (copy_any A n nc aa _ HA.out (by omega) hA).mono ?_
          rintro e wb6p ⟨rp, sp, rfl, hown, hSp, hb⟩
          replace HB := hid (below_then HB.out hb)
          replace x0 := cell_grown hb x0
          replace x1 := cell_grown hb x1
          replace x2 := cell_grown hb x2
          replace y0 := cell_grown hb y0
          replace y1 := cell_grown hb y1
          replace y2 := cell_grown hb y2
          replace hLx := hLx.grown hb
          replace hSw := hSw.grown hb
          replace hA := hA.grown hb
          replace hB2 := hB2.grown hb
          replace hstd := hstd.grown hb
          replace hl3 := hl3.grown hb
          replace hT5 := hT5.grown hb
          clear hb
          clear hown
          go_wp2_with fail
          refine (copy_any B m mc ba _ HB3.out (by omega) hB2).mono ?_
          rintro e wb6q ⟨rq, sq, rfl, hown, hSq, hb⟩
          replace HB := hid (below_then HB.out hb)
          replace x0 := cell_grown hb x0
          replace x1 := cell_grown hb x1
          replace x2 := cell_grown hb x2
          replace y0 := cell_grown hb y0
          replace y1 := cell_grown hb y1
          replace y2 := cell_grown hb y2
          replace hLx := hLx.grown hb
          replace hSw := hSw.grown hb
          replace hA := hA.grown hb
          replace hB2 := hB2.grown hb
          replace hstd := hstd.grown hb
          replace hl3 := hl3.grown hb
          replace hT5 := hT5.grown hb
          replace hSp := hSp.grown hb
          clear hb
          clear hown
          go_wp2_with fail
          refine (troubleF_any l b1 b2 b3 n1 n2 n3 d1 d2 d3 (S ++ [(mk, mo, mw)]) tb (sn + 1) td A B n m sp sq rp rq _ H1.out H2.out H3.out hl3 HST.out (by unfold maxLen; omega) hT5 HA.out (by unfold maxLen; omega) hSp HB3.out (by unfold maxLen; omega) hSq hstd).mono ?_
          rintro e wc6 ⟨rfl, hb⟩
          rw [HT6.out.1, HT6.out.2]
          replace HB := hid (below_then HB.out hb)
          replace x0 := cell_grown hb x0
          replace x1 := cell_grown hb x1
          replace x2 := cell_grown hb x2
          replace y0 := cell_grown hb y0
          replace y1 := cell_grown hb y1
          replace y2 := cell_grown hb y2
          replace hLx := hLx.grown hb
          replace hSw := hSw.grown hb
          replace hA := hA.grown hb
          replace hB2 := hB2.grown hb
          replace hstd := hstd.grown hb
          clear hb
          clear hSp hSq hl3 hT5
          go_wp2_with fail
          go_meet
          case rel => exact HB.out
        · have g0 : (se == 0) = false := by simpa using h0
          go_wp2_with fail
          go_meet
          case rel => exact HB.out
    case rest =>
      clear hSA y0 y1 y2
      replace HB := hid (below_then HB.out hcut)
      replace x0 := cell_grown hcut x0
      replace x1 := cell_grown hcut x1
      replace x2 := cell_grown hcut x2
      replace hLx := hLx.grown hcut
      replace hSw := hSw.grown hcut
      replace hA := hA.grown hcut
      replace hB2 := hB2.grown hcut
      replace hstd := hstd.grown hcut
      clear hcut
      go_wp2_with fail
      refine (rin_any n 1 8 _).mono ?_
      rintro e wn8 ⟨rfl, rfl⟩
      cases hi1 : inB n 1 8
      · clear hi1
        go_wp2_with fail
        refine (awake_any _ hstd).mono ?_
        rintro e wz ⟨rfl, hb⟩
        go_wp2
        go_ret
        exact ⟨rfl, below_then HB.out hb⟩
      go_wp2_with fail
      refine (rin_any m 1 8 _).mono ?_
      rintro e wn8 ⟨rfl, rfl⟩
      cases hi2 : inB m 1 8
      · clear hi2
        go_wp2_with fail
        refine (awake_any _ hstd).mono ?_
        rintro e wz ⟨rfl, hb⟩
        go_wp2
        go_ret
        exact ⟨rfl, below_then HB.out hb⟩
      have z1 : 1 ≤ n ∧ n ≤ 8 := by unfold inB at hi1; rw [decide_eq_true_eq] at hi1; omega
      have z2 : 1 ≤ m ∧ m ≤ 8 := by unfold inB at hi2; rw [decide_eq_true_eq] at hi2; omega
      clear hi1 hi2
      obtain ⟨Wz, hWz⟩ : ∃ W, W = wc := ⟨_, rfl⟩
      rw [← hWz] at x0 x1 x2 hLx hSw hA hB2 hstd HB ⊢
      clear hWz
      obtain ⟨ob, hob⟩ : ∃ b, Wz.heap.size = b := ⟨_, rfl⟩
      obtain ⟨Wr, hWr⟩ : ∃ W, W = Wz.alloc (.cells #[.slice none 0 0, .int .i64 0, .int .i64 0] 62) := ⟨_, rfl⟩
      have hBr : Below Wz.heap.size Wz Wr := by rw [hWr]; exact below_alloc _ _
      have hrow0 : Wr.rowIs ob 62 3 (row3 (.slice none 0 0) (.int .i64 0) (.int .i64 0)) := by
        rw [hWr, ← hob]
        exact World.rowIs_alloc Wz #[.slice none 0 0, .int .i64 0, .int .i64 0] 62 (row3 (.slice none 0 0) (.int .i64 0) (.int .i64 0)) (fun i hi => by
          have hi' : i < 3 := hi
          rcases (by omega : i = 0 ∨ i = 1 ∨ i = 2) with rfl | rfl | rfl <;> rfl)
      have zr : Wr.heap.size = ob + 1 := by rw [hWr, World.size_alloc, hob]
      go_wp2_with fail
      rw [← hWr]
      have hzr : Wz.heap.size ≤ Wr.heap.size := by omega
      clear hWr
      obtain ⟨i104, hi104, hz70, hz71, hz72⟩ := info_parts Tryz.info104w
      have HOB2 := hid hob
      clear hob
      go_loopw [25] (fun i wr => ∃ (k : Nat) (v1 : Value), k ≤ n ∧ i = .int .i64 k ∧ wr.rowIs ob 62 3 (row3 v1 (.int .i64 0) (.int .i64 0)) ∧ wr.ownsRow (ob + 1) 104 2 v1 k (flatV numC (rep5 (A.take k))) ∧ Below ob Wr wr) (fun i _ => n - (intOf i).toNat)
      case atStart => exact ⟨0, _, Nat.zero_le _, rfl, hrow0, World.ownsRow_nil _ _ _ _, Below.refl _ _⟩
      clear hrow0
      case round =>
        obtain ⟨k, v1, hk, rfl, hrow, hown, hBk⟩ := hrel
        have hz := hBk.size
        have hob := HOB2.out
        have hBw1 : Below Wz.heap.size Wz wr := by rw [hob]; rw [hob] at hBr; exact hBr.trans hBk
        have p0 := hrow.cell (i := 0) (by omega)
        have p1 := hrow.cell (i := 1) (by omega)
        have p2 := hrow.cell (i := 2) (by omega)
        have f0 := hrow.frozen 0
        have pl := hrow.lt
        simp only [row3] at p0 p1 p2
        by_cases hlt : k < n
        · as_aux_lemma =>
            have hlt' : (k : Int) < (n : Int) := by omega
            have k0 : (0 : Int) ≤ (k : Int) := by omega
            obtain ⟨b, off, e, e0⟩ := (hA.grown hBw1) k (by rw [HA.out]; exact hlt)
            subst e
            have htk : rep5 (A.take (k + 1)) = rep5 (A.take k) ++ [(A.getD k .empty, 5)] := by
              unfold rep5
              rw [take_step .empty (by rw [HA.out]; exact hlt), List.map_append]
              rfl
            generalize A.getD k .empty = tx at e0 htk
            have HTK := hid htk
            have hbo : b < ob := by rw [← HOB2.out]; obtain ⟨b', off', e', e1⟩ := hA k (by rw [HA.out]; exact hlt); cases e'; exact lt_of_cell e1
            have gb := lt_of_cell e0
            have hkeepT : ∀ W : World, Below ob wr W → W.cell? ⟨b, off + k, none⟩ = some (.string tx) := fun W hW => cell_below hW hbo e0
            have HKT := hid hkeepT
            clear htk hob hkeepT
            have hstep : ∀ w3 : World, (wr.drew.alloc (.cells #[.string tx, .int .i64 5] 104)).grownBy w3 v1.ownBlock → w3.rowIs ob 62 3 (row3 v1 (.int .i64 0) (.int .i64 0)) ∧ Below ob Wr w3 ∧ ob < w3.heap.size ∧ w3.cell? ⟨ob, 0, none⟩ = some v1 ∧ w3.frozen? ⟨ob, 0, none⟩ = false ∧ Below ob wr w3 := by
              intro w3 hgrow
              have hb3 : Below (ob + 1) wr.drew w3 := below_of_grown (Below.refl _ _) hown hgrow (by show ob + 1 ≤ wr.heap.size; omega)
              have hr3 := hrow.of_block (w' := w3) (hb3.block ob (by omega))
              have hbw : Below ob wr w3 := ((Below.refl wr.heap.size wr).drew.mono (by omega)).trans (hb3.mono (by omega))
              exact ⟨hr3, hBk.trans hbw, hr3.lt, hr3.cell (i := 0) (by omega), hr3.frozen 0, hbw⟩
            have HSTEP := hid hstep
            clear hstep x0 x1 x2 hLx hSw hB2 hstd
            go_wp2_with fail
            refine wp_region_noPanic ?_
            refine wp_region_held_drew (S := (fun w' : World => w'.cell? ⟨b, off + k, none⟩ = some (.string tx))) (by kernel_rfl) ?_ (fun hHeld => ?_)
            · exact HKT.out _ (Below.refl ob wr).drew
            refine wpAnyH_take (i := 0) (oi := _) (v := ?_) rfl (by kernel_rfl) (by kernel_rfl) (by kernel_rfl) (fun _ _ _ h => h) (Or.inl ⟨by rfl, ?_⟩) (by assumption) ?_
            rotate_left 1
            · intro w hSw
              (try dsimp only at hSw)
              go_simp
              all_goals (with_reducible rfl)
            try simp only [Act.put, List.setIfInBounds_toArray, List.set_cons_zero, List.set_cons_succ]
            refine wpAnyH_take (i := 2) (oi := _) (v := ?_) rfl (by kernel_rfl) (by kernel_rfl) (by kernel_rfl) (fun _ _ _ h => h) (Or.inl ⟨by rfl, ?_⟩) (by assumption) ?_
            rotate_left 1
            · intro w hSw
              (try dsimp only at hSw)
              go_simp
              all_goals (with_reducible rfl)
            try simp only [Act.put, List.setIfInBounds_toArray, List.set_cons_zero, List.set_cons_succ]
            refine wpAnyH_take (i := 3) (oi := _) (v := ?_) rfl (by kernel_rfl) (by kernel_rfl) (by kernel_rfl) (fun _ _ _ h => h) (Or.inl ⟨by rfl, ?_⟩) (by assumption) ?_
            rotate_left 1
            · intro w hSw
              (try dsimp only at hSw)
              go_simp
              all_goals (with_reducible rfl)
            try simp only [Act.put, List.setIfInBounds_toArray, List.set_cons_zero, List.set_cons_succ]
            refine wpAnyH_take (i := 4) (oi := _) (v := ?_) rfl (by kernel_rfl) (by kernel_rfl) (by kernel_rfl) (fun _ _ _ h => h) (Or.inl ⟨by rfl, ?_⟩) (by assumption) ?_
            rotate_left 1
            · intro w hSw
              (try dsimp only at hSw)
              go_simp
              all_goals (with_reducible rfl)
            try simp only [Act.put, List.setIfInBounds_toArray, List.set_cons_zero, List.set_cons_succ]
            refine wpAnyH_take (i := 5) (oi := _) (v := ?_) rfl (by kernel_rfl) (by kernel_rfl) (by kernel_rfl) (fun _ _ _ h => h) (Or.inl ⟨by rfl, ?_⟩) (by assumption) ?_
            rotate_left 1
            · intro w hSw
              (try dsimp only at hSw)
              go_simp
              all_goals (with_reducible rfl)
            try simp only [Act.put, List.setIfInBounds_toArray, List.set_cons_zero, List.set_cons_succ]
            refine wpAnyH_take (i := 6) (oi := _) (v := ?_) rfl (by kernel_rfl) (by kernel_rfl) (by kernel_rfl) (fun _ _ _ h => h) (Or.inl ⟨by rfl, ?_⟩) (by assumption) ?_
            rotate_left 1
            · intro w hSw
              (try dsimp only at hSw)
              go_simp
              all_goals (with_reducible rfl)
            try simp only [Act.put, List.setIfInBounds_toArray, List.set_cons_zero, List.set_cons_succ]
            refine wpAnyH_ready (rs := [1, 7]) (by kernel_rfl) (by simp) ?_
            refine AllReadyH.cons (o := _) rfl (fun K hK => ?_) ?_
            · go_simp
              refine hK.out _ _ ?_ (fun hHeld => ?_)
              · exact HKT.out _ (Below.refl ob wr).drew
              clear hK K
              try simp only [Act.put, List.setIfInBounds_toArray, List.set_cons_zero, List.set_cons_succ]
              refine wpAnyH_ready (rs := [7]) (by kernel_rfl) (by simp) ?_
              refine AllReadyH.cons (o := _) rfl (fun K hK => ?_) ?_
              · go_simp
                refine hK.out _ _ ?_ (fun hHeld => ?_)
                · exact HKT.out _ ((Below.alloc (Below.refl ob wr) (by omega) _).drew)
                clear hK K
                try simp only [Act.put, List.setIfInBounds_toArray, List.set_cons_zero, List.set_cons_succ]
                refine wpAnyH_ready (rs := [8]) (by kernel_rfl) (by simp) ?_
                refine AllReadyH.cons (o := _) rfl (fun K hK => ?_) ?_
                · refine step_append_lies _ rfl _ _ 60 rfl (ob + 1) 104 i104 (.agg #[.string .empty, .int .i64 0]) 2 24 Tryz.underlying60 hi104 hz70 hz71 hz72 rfl (by decide) _ k _ rfl (hown.alloc (.cells #[.string tx, .int .i64 5] 104)) ⟨wr.heap.size, 0, none⟩ 1 1 [.string tx, .int .i64 5] rfl rfl (cell_two_new _ _ _ _) (fun y hy => by simp at hy; rcases hy with rfl | rfl <;> rfl) (by omega) (by unfold maxLen; omega) (by omega) (by simp; omega) (wr.heap.size + 1) (by simp) ?_
                  intro g cp w3 hown' hgrow hat hlt9
                  obtain ⟨hr3, hb3, sl, s5, f5, hb3w⟩ := HSTEP.out w3 hgrow
                  clear hgrow hat
                  refine hK.out _ _ ?_ (fun hHeld => ?_)
                  · exact HKT.out _ hb3w
                  clear hK K
                  try simp only [Act.put, List.setIfInBounds_toArray, List.set_cons_zero, List.set_cons_succ]
                  refine wpAnyH_take (i := 9) (oi := _) (v := ?_) rfl (by kernel_rfl) (by kernel_rfl) (by kernel_rfl) (fun _ _ _ h => h) (Or.inl ⟨by rfl, ?_⟩) (by assumption) ?_
                  rotate_left 1
                  · intro w hSw
                    (try dsimp only at hSw)
                    go_simp
                    all_goals (with_reducible rfl)
                  try simp only [Act.put, List.setIfInBounds_toArray, List.set_cons_zero, List.set_cons_succ]
                  refine wpAnyH_ready (rs := [10]) (by kernel_rfl) (by simp) ?_
                  refine AllReadyH.cons (o := _) rfl (fun K hK => ?_) ?_
                  · go_simp
                    refine hK.out _ _ ?_ (fun hHeld => ?_)
                    · exact HKT.out _ (hb3w.setCell (p := ⟨ob, 0, none⟩) (Nat.le_refl _) _)
                    clear hK K
                    try simp only [Act.put, List.setIfInBounds_toArray, List.set_cons_zero, List.set_cons_succ]
                    refine wpAnyH_done (by kernel_rfl) ?_ _
                    refine NoPanic.normal ?_
                    go_wp2
                    go_roundw
                    case rel => exact ⟨k + 1, _, by omega, by go_num, row3_set0 hr3 _, by rw [HTK.out, flatV_snoc]; exact ownsRow_setCell_below hown' (by simp) _, hb3.setCell (p := ⟨ob, 0, none⟩) (by simp) _⟩
                    case measure => simp [intOf]; omega
                  exact AllReadyH.nil
                exact AllReadyH.nil
              exact AllReadyH.nil
            refine AllReadyH.cons (o := _) rfl (fun K hK => ?_) ?_
            · go_simp
              refine hK.out _ _ ?_ (fun hHeld => ?_)
              · exact HKT.out _ ((Below.alloc (Below.refl ob wr) (by omega) _).drew)
              clear hK K
              try simp only [Act.put, List.setIfInBounds_toArray, List.set_cons_zero, List.set_cons_succ]
              refine wpAnyH_ready (rs := [1]) (by kernel_rfl) (by simp) ?_
              refine AllReadyH.cons (o := _) rfl (fun K hK => ?_) ?_
              · go_simp
                refine hK.out _ _ ?_ (fun hHeld => ?_)
                · exact HKT.out _ ((Below.alloc (Below.refl ob wr) (by omega) _).drew)
                clear hK K
                try simp only [Act.put, List.setIfInBounds_toArray, List.set_cons_zero, List.set_cons_succ]
                refine wpAnyH_ready (rs := [8]) (by kernel_rfl) (by simp) ?_
                refine AllReadyH.cons (o := _) rfl (fun K hK => ?_) ?_
                · refine step_append_lies _ rfl _ _ 60 rfl (ob + 1) 104 i104 (.agg #[.string .empty, .int .i64 0]) 2 24 Tryz.underlying60 hi104 hz70 hz71 hz72 rfl (by decide) _ k _ rfl (hown.alloc (.cells #[.string tx, .int .i64 5] 104)) ⟨wr.heap.size, 0, none⟩ 1 1 [.string tx, .int .i64 5] rfl rfl (cell_two_new _ _ _ _) (fun y hy => by simp at hy; rcases hy with rfl | rfl <;> rfl) (by omega) (by unfold maxLen; omega) (by omega) (by simp; omega) (wr.heap.size + 1) (by simp) ?_
                  intro g cp w3 hown' hgrow hat hlt9
                  obtain ⟨hr3, hb3, sl, s5, f5, hb3w⟩ := HSTEP.out w3 hgrow
                  clear hgrow hat
                  refine hK.out _ _ ?_ (fun hHeld => ?_)
                  · exact HKT.out _ hb3w
                  clear hK K
                  try simp only [Act.put, List.setIfInBounds_toArray, List.set_cons_zero, List.set_cons_succ]
                  refine wpAnyH_take (i := 9) (oi := _) (v := ?_) rfl (by kernel_rfl) (by kernel_rfl) (by kernel_rfl) (fun _ _ _ h => h) (Or.inl ⟨by rfl, ?_⟩) (by assumption) ?_
                  rotate_left 1
                  · intro w hSw
                    (try dsimp only at hSw)
                    go_simp
                    all_goals (with_reducible rfl)
                  try simp only [Act.put, List.setIfInBounds_toArray, List.set_cons_zero, List.set_cons_succ]
                  refine wpAnyH_ready (rs := [10]) (by kernel_rfl) (by simp) ?_
                  refine AllReadyH.cons (o := _) rfl (fun K hK => ?_) ?_
                  · go_simp
                    refine hK.out _ _ ?_ (fun hHeld => ?_)
                    · exact HKT.out _ (hb3w.setCell (p := ⟨ob, 0, none⟩) (Nat.le_refl _) _)
                    clear hK K
                    try simp only [Act.put, List.setIfInBounds_toArray, List.set_cons_zero, List.set_cons_succ]
                    refine wpAnyH_done (by kernel_rfl) ?_ _
                    refine NoPanic.normal ?_
                    go_wp2
                    go_roundw
                    case rel => exact ⟨k + 1, _, by omega, by go_num, row3_set0 hr3 _, by rw [HTK.out, flatV_snoc]; exact ownsRow_setCell_below hown' (by simp) _, hb3.setCell (p := ⟨ob, 0, none⟩) (by simp) _⟩
                    case measure => simp [intOf]; omega
                  exact AllReadyH.nil
                exact AllReadyH.nil
              exact AllReadyH.nil
            exact AllReadyH.nil
        · have hkn : k = n := by omega
          subst hkn
          have hfull : A.take k = A := List.take_of_length_le (by rw [HA.out]; exact Nat.le_refl _)
          rw [hfull] at hown
          obtain ⟨u1, d9, rfl⟩ := owns_shape hown
          have hRl : (rep5 A).length = k := by unfold rep5; rw [List.length_map]; exact HA.out
          have hNu : Nums wr u1 (rep5 A) := nums_of_ownsN hown hRl
          have hrm := owns_room hown
          have HRL := hid hRl
          replace HB := hid (below_then HB.out hBw1)
          replace x0 := cell_grown hBw1 x0
          replace x1 := cell_grown hBw1 x1
          replace x2 := cell_grown hBw1 x2
          replace hLx := hLx.grown hBw1
          replace hSw := hSw.grown hBw1
          replace hA := hA.grown hBw1
          replace hB2 := hB2.grown hBw1
          replace hstd := hstd.grown hBw1
          clear hown hrow hBk hBw1 hfull hRl hBr
          have HH5 : Hid (hearErr l S (rep5 A) 0 0 [ask5 A.length B] = 0) := hid (hear5 HRE.out (by rw [HA.out]; omega) HOA.out.2)
          have HD5 : Hid (decideM l S (rep5 A) 0 0 [ask5 A.length B] 0 = if y = 0 then 0 else 9) := hid (by rw [decide5 (by rw [HA.out]; omega) (by rw [HB3.out]; omega) HOB.out.2, HMA.out, HMB.out, HY.out])
          rw [HA.out] at HH5 HD5
          have HPU : Hid (∀ q ∈ [ask5 k B], I64 q.c) := hid (fun q hq => by
            rw [List.mem_singleton] at hq
            subst hq
            show -9223372036854775808 ≤ (k : Int) ∧ (k : Int) ≤ 9223372036854775807
            omega)
          have hBd : Below wr.heap.size wr wr.drew := (Below.refl _ _).drew
          obtain ⟨Wq, hWq⟩ : ∃ W, W = wr := ⟨_, rfl⟩
          have hBa := hBd
          go_wp2_with fail
          go_region_held3 (fun w' : World => w'.cell? ⟨w.heap.size, 0, none⟩ = some (.slice a1 n1 c1) ∧ w'.cell? ⟨w.heap.size, 1, none⟩ = some (.slice a2 n2 c2) ∧ w'.cell? ⟨w.heap.size, 2, none⟩ = some (.slice a3 n3 c3) ∧ w'.cell? ⟨ob, 0, none⟩ = some (.slice u1 k d9) ∧ w'.cell? ⟨ob, 1, none⟩ = some (.int .i64 0) ∧ w'.cell? ⟨ob, 2, none⟩ = some (.int .i64 0)) (first | with_reducible exact ⟨x0, x1, x2, p0, p1, p2⟩ | exact ⟨cell_grown hBa x0, cell_grown hBa x1, cell_grown hBa x2, cell_grown hBa p0, cell_grown hBa p1, cell_grown hBa p2⟩)
            (first
          | (go_at_call 19
             replace HB := hid (below_then HB.out hBd)
             replace x0 := cell_grown hBd x0
             replace x1 := cell_grown hBd x1
             replace x2 := cell_grown hBd x2
             replace p0 := cell_grown hBd p0
             replace p1 := cell_grown hBd p1
             replace p2 := cell_grown hBd p2
             replace hLx := hLx.grown hBd
             replace hSw := hSw.grown hBd
             replace hA := hA.grown hBd
             replace hB2 := hB2.grown hBd
             replace hstd := hstd.grown hBd
             replace hNu := hNu.grown hBd
             refine (lexicon_any l a1 a2 a3 n1 n2 n3 c1 c2 c3 _ H1.out H2.out H3.out q1 q2 q3 (fun N hN => by have := HT.out.m2 N hN; omega) hLx).mono ?_
             rintro e wl1 ⟨b1, b2, b3, d1, d2, d3, rfl, hl3, hb1⟩
             replace HB := hid (below_then HB.out hb1)
             replace x0 := cell_grown hb1 x0
             replace x1 := cell_grown hb1 x1
             replace x2 := cell_grown hb1 x2
             replace p0 := cell_grown hb1 p0
             replace p1 := cell_grown hb1 p1
             replace p2 := cell_grown hb1 p2
             replace hLx := hLx.grown hb1
             replace hSw := hSw.grown hb1
             replace hA := hA.grown hb1
             replace hB2 := hB2.grown hb1
             replace hstd := hstd.grown hb1
             replace hNu := hNu.grown hb1)
          | (go_at_call 27
             refine (swaps_any S sn sc sa _ HS.out (by omega) hSw).mono ?_
             rintro e wl2 ⟨tb, td, rfl, hT5, hb2⟩
             replace HB := hid (below_then HB.out hb2)
             replace x0 := cell_grown hb2 x0
             replace x1 := cell_grown hb2 x1
             replace x2 := cell_grown hb2 x2
             replace p0 := cell_grown hb2 p0
             replace p1 := cell_grown hb2 p1
             replace p2 := cell_grown hb2 p2
             replace hLx := hLx.grown hb2
             replace hSw := hSw.grown hb2
             replace hA := hA.grown hb2
             replace hB2 := hB2.grown hb2
             replace hstd := hstd.grown hb2
             replace hNu := hNu.grown hb2
             replace hl3 := hl3.grown hb2)
          | (go_at_call 21
             refine (copy_any B m mc ba _ HB3.out (by omega) hB2).mono ?_
             rintro e wl3 ⟨rp, sp, rfl, -, hSp, hb3⟩
             replace HB := hid (below_then HB.out hb3)
             replace x0 := cell_grown hb3 x0
             replace x1 := cell_grown hb3 x1
             replace x2 := cell_grown hb3 x2
             replace p0 := cell_grown hb3 p0
             replace p1 := cell_grown hb3 p1
             replace p2 := cell_grown hb3 p2
             replace hLx := hLx.grown hb3
             replace hSw := hSw.grown hb3
             replace hA := hA.grown hb3
             replace hB2 := hB2.grown hb3
             replace hstd := hstd.grown hb3
             replace hNu := hNu.grown hb3
             replace hl3 := hl3.grown hb3
             replace hT5 := hT5.grown hb3
             replace hBa := (Below.alloc (Below.refl wl3.heap.size wl3) (Nat.le_refl _) (.cells #[.int .i64 5, .int .i64 0, .int .i64 0, .int .i64 (k : Int), .slice rp m sp] 87)))
          | (go_at_call 33
             have hRQ : ReqsAt (wl3.alloc (.cells #[.int .i64 5, .int .i64 0, .int .i64 0, .int .i64 (k : Int), .slice rp m sp] 87)) (some ⟨wl3.heap.size, 0, none⟩) [ask5 k B] := req_lone HB3.out (by unfold maxLen; omega) hSp
             replace HB := hid (below_then HB.out hBa)
             replace x0 := cell_grown hBa x0
             replace x1 := cell_grown hBa x1
             replace x2 := cell_grown hBa x2
             replace p0 := cell_grown hBa p0
             replace p1 := cell_grown hBa p1
             replace p2 := cell_grown hBa p2
             replace hLx := hLx.grown hBa
             replace hSw := hSw.grown hBa
             replace hA := hA.grown hBa
             replace hB2 := hB2.grown hBa
             replace hstd := hstd.grown hBa
             replace hNu := hNu.grown hBa
             replace hl3 := hl3.grown hBa
             replace hT5 := hT5.grown hBa
             refine (decideF_any l b1 b2 b3 n1 n2 n3 d1 d2 d3 S tb sn td (rep5 A) u1 k d9 0 0 [ask5 k B] (some ⟨wl3.heap.size, 0, none⟩) 1 1 _ H1.out H2.out H3.out hl3 HS.out (by unfold maxLen; omega) hT5 HRL.out (by unfold maxLen; omega) hrm hNu rfl hRQ HPU.out hstd).mono ?_
             rintro e wl5 ⟨Wd, hbW, hbd, he⟩
             rw [if_pos HH5.out] at he
             obtain ⟨ab, T, rfl, hTk, hrow⟩ := he
             have hb5 := hbW.trans (hbd.mono hbW.size)
             replace HB := hid (below_then HB.out hb5)
             replace x0 := cell_grown hb5 x0
             replace x1 := cell_grown hb5 x1
             replace x2 := cell_grown hb5 x2
             replace p0 := cell_grown hb5 p0
             replace p1 := cell_grown hb5 p1
             replace p2 := cell_grown hb5 p2
             replace hLx := hLx.grown hb5
             replace hSw := hSw.grown hb5
             replace hA := hA.grown hb5
             replace hB2 := hB2.grown hb5
             replace hstd := hstd.grown hb5
             replace hNu := hNu.grown hb5))
          all_goals
            have hDD := (run_order (l := l) (S := S) (R := rep5 A) (out := 0) (win := 0) hTk).1
            have d0 := hrow.cell (i := 0) (by omega)
            rw [hDD, HD5.out] at d0
            have g0 := lt_of_cell d0
            clear hDD hrow hTk
            by_cases hy0 : y = 0
            · rw [if_pos hy0] at d0
              have gy : (y == 0) = true := by simpa using hy0
              go_wp2_with fail
              refine (awake_any _ hstd).mono ?_
              rintro e wz ⟨rfl, hb⟩
              go_wp2
              go_ret
              exact ⟨rfl, below_then HB.out hb⟩
            · rw [if_neg hy0] at d0
              have gy : (y == 0) = false := by simpa using hy0
              go_wp2_with fail
              refine (awake_any _ hstd).mono ?_
              rintro e wz ⟨rfl, hb⟩
              go_wp2
              go_ret
              exact ⟨rfl, below_then HB.out hb⟩

end Go.Proofs.YtbampfkmgjfofaaGreatDoor
