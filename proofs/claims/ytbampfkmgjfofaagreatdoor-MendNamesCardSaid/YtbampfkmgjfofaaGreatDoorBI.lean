/- Mend: the trouble between two lists of texts: Trouble. Mend: a hearing: the function hear. Mend: what is decided about requests: Decide. -/
import Derived.Test.YtbampfkmgjfofaaGreatDoorBD
import Derived.Test.YtbampfkmgjfofaaGreatDoorBF
namespace Go.Proofs.YtbampfkmgjfofaaGreatDoor
open Go.RowKit

theorem lists_two {w : World} {blk : Nat} {a b : Option Addr} {n m cn cm : Nat} {L M : List Tx} (hL : L.length = n) (hn : n ≤ maxLen) (hS : Strs w a L) (hM : M.length = m) (hm : m ≤ maxLen) (hT : Strs w b M)
    (hc : w.cell? ⟨blk, 0, none⟩ = some (.slice a n cn)) (hd : w.cell? ⟨blk, 1, none⟩ = some (.slice b m cm)) : Lists w (some ⟨blk, 0, none⟩) [L, M] := by
  intro i hi
  rcases (by simp at hi; omega : i = 0 ∨ i = 1) with rfl | rfl
  · exact ⟨blk, 0, a, cn, rfl, by show w.cell? ⟨blk, 0, none⟩ = some (.slice a L.length cn); rw [hL]; exact hc, by show L.length ≤ maxLen; rw [hL]; exact hn, hS⟩
  · exact ⟨blk, 0, b, cm, rfl, by show w.cell? ⟨blk, 0 + 1, none⟩ = some (.slice b M.length cm); rw [hM, Nat.zero_add]; exact hd, by show M.length ≤ maxLen; rw [hM]; exact hm, hT⟩

/-- The error of Trouble. -/
def troubleErr (l : Lex) (S : List (Int × Int × Int)) (A B : List Tx) : Int := if readErr l S = 0 then textsErr [A, B] else readErr l S

/-- What Trouble returns. -/
def troubleF (l : Lex) (S : List (Int × Int × Int)) (A B : List Tx) : Int := if troubleErr l S A B = 0 then troubleM S (senseM (entries l) A) (senseM (entries l) B) else 0

theorem lex_of_read {l : Lex} {S : List (Int × Int × Int)} (h : readErr l S = 0) : lexErr l = 0 ∧ S.length ≤ 20 ∧ S.all swapOk = true := by
  unfold readErr at h
  split at h
  · rename_i h1
    unfold swapsErr at h
    split at h
    · cases h
    · split at h
      · rename_i h2 h3
        exact ⟨h1, by omega, h3⟩
      · cases h
  · rename_i h1
    exact absurd h h1

set_option maxRecDepth 100000 in
set_option maxHeartbeats 4000000 in
theorem troubleF_any (l : Lex) (a1 a2 a3 : Option Addr) (n1 n2 n3 c1 c2 c3 : Nat) (S : List (Int × Int × Int)) (sa : Option Addr) (sn sc : Nat) (A B : List Tx) (n m nc mc : Nat) (aa ba : Option Addr) (w : World)
    (h1 : l.nums.length = n1) (h2 : l.names.length = n2) (h3 : l.nots.length = n3) (hLx : LexAt w a1 a2 a3 l) (hs : S.length = sn) (hsn : sn ≤ maxLen) (hS : SwapsAt w sa S)
    (hA : A.length = n) (hn : n ≤ maxLen) (hAs : Strs w aa A) (hB : B.length = m) (hm : m ≤ maxLen) (hBs : Strs w ba B) (hstd : Std w) :
    Calls Tryz.prog 26 #[.agg #[.slice a1 n1 c1, .slice a2 n2 c2, .slice a3 n3 c3], .slice sa sn sc, .slice aa n nc, .slice ba m mc] w fun e w' => e = .returned (.tuple #[.int .i64 (troubleF l S A B), .int .i64 (troubleErr l S A B)]) ∧ Below w.heap.size w w' := by
  have hB0 := below_alloc w (.cells #[.slice a1 n1 c1, .slice a2 n2 c2, .slice a3 n3 c3] 34)
  have hcon := read_any l a1 a2 a3 n1 n2 n3 c1 c2 c3 S sa sn sc _ h1 h2 h3 (hLx.grown hB0) hs hsn (hS.grown hB0)
  clear h1 h2 h3 hLx
  have HA := hid hA; have HBl := hid hB; have HS := hid hs
  clear hA hB hs
  obtain ⟨tz, htz⟩ : ∃ z, troubleF l S A B = z := ⟨_, rfl⟩
  obtain ⟨te, hte⟩ : ∃ z, troubleErr l S A B = z := ⟨_, rfl⟩
  rw [htz, hte]
  have HT := hid htz
  have HTE := hid hte
  clear htz hte
  go_enter Tryz.func26, Tryz.ntmps26
  go_wp2_with fail
  refine hcon.mono ?_
  rintro e w1 ⟨hb, he⟩
  have hB1 := below_then hB0 hb
  by_cases h0 : readErr l S = 0
  · rw [if_pos h0] at he
    obtain ⟨mb, hmb, rfl, hmap⟩ := he
    obtain ⟨hle, -, -⟩ := lex_of_read h0
    obtain ⟨-, hnt⟩ := lex_ok hle
    have HE : Hid (te = textsErr [A, B]) := hid (by rw [← HTE.out, troubleErr, if_pos h0])
    clear h0 hcon hle
    have hBa := hB1.alloc hB1.size (.cells #[.map (some mb), .slice sa sn sc] 116)
    have hBb := hBa.alloc hBa.size (.cells #[.slice aa n nc, .slice ba m mc] 24)
    obtain ⟨W2, hW2⟩ : ∃ W2, W2 = (w1.alloc (.cells #[.map (some mb), .slice sa sn sc] 116)).alloc (.cells #[.slice aa n nc, .slice ba m mc] 24) := ⟨_, rfl⟩
    rw [← hW2] at hBb
    have r2 : Box2 W2 w1.heap.size 116 (.map (some mb)) (.slice sa sn sc) := by rw [hW2]; exact (Box2.new w1 116 _ _).alloc _
    have d0 : W2.cell? ⟨w1.heap.size + 1, 0, none⟩ = some (.slice aa n nc) := by rw [hW2]; simp [go_sem]
    have d1 : W2.cell? ⟨w1.heap.size + 1, 1, none⟩ = some (.slice ba m mc) := by rw [hW2]; simp [go_sem]
    have hm2 : MapIs W2 mb (entries l) := hmap.kept (by rw [hW2]; exact (Below.heap_alloc _ _ _ (by have := hmap.lt; simp; omega)).trans (Below.heap_alloc _ _ _ hmap.lt))
    go_wp2_with fail
    rw [← hW2]
    clear hW2 hBa
    refine (checkTexts_any [A, B] 2 2 _ W2 rfl (by unfold maxLen; decide) (lists_two HA.out hn (hAs.grown hBb) HBl.out hm (hBs.grown hBb) d0 d1)).mono ?_
    rintro e w3 ⟨rfl, hb3⟩
    have hB3 := below_then hBb hb3
    have r3 : Box2 w3 w1.heap.size 116 (.map (some mb)) (.slice sa sn sc) := (hb3.block _ r2.lt).trans r2
    have hm3 := hm2.grown hb3
    have y0 := r3.c0
    have y1 := r3.c1
    have gl := r3.lt
    by_cases ht : textsErr [A, B] = 0
    · have htA := texts_ok ht A (by simp)
      have htB := texts_ok ht B (by simp)
      have HTE2 : Hid (te = 0) := hid (by rw [HE.out, ht])
      have HT2 : Hid (tz = troubleM S (senseM (entries l) A) (senseM (entries l) B)) := hid (by rw [← HT.out, troubleF, HTE.out, HTE2.out, if_pos rfl])
      rw [ht]
      clear ht HE d0 d1
      obtain ⟨W3, hW3⟩ : ∃ W, W = w3 := ⟨_, rfl⟩
      rw [← hW3] at y0 y1 gl hm3 hB3 ⊢
      clear hW3 r3 hb3
      have HM := hid hm3
      have HB := hid hB3
      have HSW := hid (hS.grown hB3)
      have HAS := hid (hAs.grown hB3)
      have HBS := hid (hBs.grown hB3)
      have HST := hid (hstd.grown hB3)
      have HTA := hid htA
      have HTB := hid htB
      clear hm3 hB3 htA htB hS hAs hBs hstd hB0 hB1 hBb hb hm2 r2 hmap
      have hBd : Below W3.heap.size W3 W3.drew := (Below.refl _ _).drew
      go_wp2_with fail
      go_region_held3 (fun w' : World => w'.cell? ⟨w1.heap.size, 0, none⟩ = some (.map (some mb)) ∧ w'.cell? ⟨w1.heap.size, 1, none⟩ = some (.slice sa sn sc)) (exact ⟨y0, y1⟩)
        (first
          | (go_at_call_has 53 aa
             replace y0 := cell_grown hBd y0
             replace y1 := cell_grown hBd y1
             refine (sense_any (entries l) mb sa sn sc A n nc aa _ (HM.out.grown hBd) hnt HA.out (by have := HTA.out.1; have := HA.out; omega) (HAS.out.grown hBd) (fun t h => textOk_size (HTA.out.2 t h)) (HST.out.grown hBd)).mono ?_
             rintro e w2 ⟨ra, rc, rfl, hown2, hb2⟩
             have hb12 := below_then hBd hb2
             have HB2 := hid (HB.out.trans (hb12.mono HB.out.size))
             have HM2 := hid (HM.out.grown hb12)
             have HSW2 := hid (HSW.out.grown hb12)
             have HQS2 := hid (HBS.out.grown hb12)
             have HST2 := hid (HST.out.grown hb12)
             have HA2 := hid (marks_of_owns hown2)
             replace y0 := cell_grown hb2 y0
             replace y1 := cell_grown hb2 y1
             clear hown2 hb12)
          | (go_at_call_has 53 ba
             refine (sense_any (entries l) mb sa sn sc B m mc ba _ HM2.out hnt HBl.out (by have := HTB.out.1; have := HBl.out; omega) HQS2.out (fun t h => textOk_size (HTB.out.2 t h)) HST2.out).mono ?_
             rintro e w3 ⟨rb, rd, rfl, hown3, hb3⟩
             have HB3 := hid (HB2.out.trans (hb3.mono HB2.out.size))
             have HSW3 := hid (HSW2.out.grown hb3)
             have HA3 := hid (HA2.out.grown hb3)
             have HC3 := hid (marks_of_owns hown3)
             replace y0 := cell_grown hb3 y0
             replace y1 := cell_grown hb3 y1
             clear hown3)
          | (go_at_call 57
             refine (trouble_any S (some mb) sn sc sa (senseM (entries l) A) (senseM (entries l) B) _ _ rc rd ra rb _ HS.out hsn HSW3.out rfl (by have := senseM_length (entries l) A; have := HTA.out.1; omega) HA3.out rfl (by have := senseM_length (entries l) B; have := HTB.out.1; omega) HC3.out).mono ?_
             rintro e w4 ⟨rfl, hb4⟩
             have HB4 := hid (HB3.out.trans (hb4.mono HB3.out.size))
             replace y0 := cell_grown hb4 y0
             replace y1 := cell_grown hb4 y1))
      go_wp2
      all_goals
        exact bodyPost_ret (v := .tuple #[.int .i64 (troubleM S (senseM (entries l) A) (senseM (entries l) B)), .int .i64 0]) (by simp [results, Tryz.f26, go_sem]) rfl ⟨by rw [HT2.out, HTE2.out], HB4.out⟩
    · have HZ := hid ht
      have HTZ : Hid (tz = 0) := hid (by rw [← HT.out, troubleF, HTE.out, HE.out, if_neg ht])
      generalize textsErr [A, B] = z at ht HE HZ ⊢
      go_wp2
      exact bodyPost_ret (v := .tuple #[.int .i64 0, .int .i64 z]) (by simp [results, Tryz.f26, go_sem]) rfl ⟨by rw [HTZ.out, HE.out], hB3⟩
  · rw [if_neg h0] at he
    subst he
    have HE : Hid (te = readErr l S) := hid (by rw [← HTE.out, troubleErr, if_neg h0])
    have HTZ : Hid (tz = 0) := hid (by rw [← HT.out, troubleF, HTE.out, HE.out, if_neg h0])
    generalize readErr l S = z at h0 HE ⊢
    go_wp2
    exact bodyPost_ret (v := .tuple #[.int .i64 0, .int .i64 z]) (by simp [results, Tryz.f26, go_sem]) rfl ⟨by rw [HTZ.out, HE.out], hB1.alloc hB1.size _⟩

end Go.Proofs.YtbampfkmgjfofaaGreatDoor

namespace Go.Proofs.YtbampfkmgjfofaaGreatDoor
open Go.RowKit

def row7 (v0 v1 v2 v3 v4 v5 v6 : Value) : Nat → Value
  | 0 => v0
  | 1 => v1
  | 2 => v2
  | 3 => v3
  | 4 => v4
  | 5 => v5
  | _ => v6

def set7 (X : World) (b : Nat) (v0 v1 v2 v3 v4 v5 v6 : Value) : World :=
  ((((((X.setCell ⟨b, 0, none⟩ v0).setCell ⟨b, 1, none⟩ v1).setCell ⟨b, 2, none⟩ v2).setCell ⟨b, 3, none⟩ v3).setCell ⟨b, 4, none⟩ v4).setCell ⟨b, 5, none⟩ v5).setCell ⟨b, 6, none⟩ v6

variable {X : World} {b : Nat} {v0 v1 v2 v3 v4 v5 v6 : Value}

theorem set7_row {t : TypeId} {f : Nat → Value} (h : X.rowIs b t 7 f) : (set7 X b v0 v1 v2 v3 v4 v5 v6).rowIs b t 7 (row7 v0 v1 v2 v3 v4 v5 v6) :=
  (((((((h.set 0 v0).set 1 v1).set 2 v2).set 3 v3).set 4 v4).set 5 v5).set 6 v6).congr fun i hi => by
    rcases (by omega : i = 0 ∨ i = 1 ∨ i = 2 ∨ i = 3 ∨ i = 4 ∨ i = 5 ∨ i = 6) with rfl | rfl | rfl | rfl | rfl | rfl | rfl <;> rfl

theorem set7_block {k : Nat} (h : k ≠ b) : (set7 X b v0 v1 v2 v3 v4 v5 v6).heap[k]? = X.heap[k]? := by
  unfold set7
  rw [RowKit.Below.heap_setCell _ _ _ _ h, RowKit.Below.heap_setCell _ _ _ _ h, RowKit.Below.heap_setCell _ _ _ _ h, RowKit.Below.heap_setCell _ _ _ _ h, RowKit.Below.heap_setCell _ _ _ _ h, RowKit.Below.heap_setCell _ _ _ _ h, RowKit.Below.heap_setCell _ _ _ _ h]

theorem set7_below {B : Nat} {w : World} (h : Below B w X) (hb : B ≤ b) : Below B w (set7 X b v0 v1 v2 v3 v4 v5 v6) :=
  ((((((h.setCell (p := ⟨b, 0, none⟩) hb v0).setCell (p := ⟨b, 1, none⟩) hb v1).setCell (p := ⟨b, 2, none⟩) hb v2).setCell (p := ⟨b, 3, none⟩) hb v3).setCell (p := ⟨b, 4, none⟩) hb v4).setCell (p := ⟨b, 5, none⟩) hb v5).setCell (p := ⟨b, 6, none⟩) hb v6

theorem set7_owns {base : Nat} {e : TypeId} {size : Nat} {v : Value} {n : Nat} {xs : List Value} (h : X.ownsRow base e size v n xs) (hb : b < base) : (set7 X b v0 v1 v2 v3 v4 v5 v6).ownsRow base e size v n xs :=
  ownsRow_setCell_below (ownsRow_setCell_below (ownsRow_setCell_below (ownsRow_setCell_below (ownsRow_setCell_below (ownsRow_setCell_below (ownsRow_setCell_below h (by exact hb) _) (by exact hb) _) (by exact hb) _) (by exact hb) _) (by exact hb) _) (by exact hb) _) (by exact hb) _

theorem set7_size : (set7 X b v0 v1 v2 v3 v4 v5 v6).heap.size = X.heap.size := by simp [set7]

theorem Tryz.info30 : (Tryz.prog.info? 30).map (fun i => (i.zero, i.size, i.bytes)) = some (some (.int .i64 0), 1, 8) := by kernel_rfl

/-- The error of a hearing. -/
def hearErr (l : Lex) (S : List (Int × Int × Int)) (R : List (Tx × Int)) (out win : Int) (L : List Req) : Int :=
  if readErr l S = 0 then (if reportErr R out win = 0 then (if 20 < L.length then 3 else 0) else reportErr R out win) else readErr l S

/-- What hear returns where nothing is refused, with its memory. -/
def HeardOk (l : Lex) (S : List (Int × Int × Int)) (R : List (Tx × Int)) (out win : Int) (L : List Req) (wa : Option Addr) (wn wc : Nat) (sa : Option Addr) (sn sc rn : Nat) (w : World) (e : Ending) (w' : World) : Prop :=
  ∃ mb ab va T, e = .returned (.tuple #[.agg #[.slice wa wn wc, .int .i64 out, .int .i64 win, .map (some mb), .slice sa sn sc, va, .slice (some ⟨ab, 0, none⟩) rn rn], .int .i64 0]) ∧ w.heap.size ≤ ab ∧ TakenOk w L T ∧
    w'.rowIs ab 30 rn (fun j => .int .i64 ((runA (aloneM (entries l) S R out win L) T).1 j)) ∧
    w'.ownsRow w.heap.size 162 6 va (runA (aloneM (entries l) S R out win L) T).2.length (flatV askC (runA (aloneM (entries l) S R out win L) T).2)

def HearPost (l : Lex) (S : List (Int × Int × Int)) (R : List (Tx × Int)) (out win : Int) (L : List Req) (wa : Option Addr) (wn wc : Nat) (sa : Option Addr) (sn sc rn : Nat) (w : World) (e : Ending) (w' : World) : Prop :=
  Below w.heap.size w w' ∧ if hearErr l S R out win L = 0 then HeardOk l S R out win L wa wn wc sa sn sc rn w e w'
    else e = .returned (.tuple #[.agg #[.slice none 0 0, .int .i64 0, .int .i64 0, .map none, .slice none 0 0, .slice none 0 0, .slice none 0 0], .int .i64 (hearErr l S R out win L)])

set_option maxRecDepth 100000 in
set_option maxHeartbeats 4000000 in
theorem hear_any (l : Lex) (a1 a2 a3 : Option Addr) (n1 n2 n3 c1 c2 c3 : Nat) (S : List (Int × Int × Int)) (sa : Option Addr) (sn sc : Nat) (R : List (Tx × Int)) (wa : Option Addr) (wn wc : Nat) (out win : Int) (L : List Req) (ra : Option Addr) (rn rc : Nat) (w : World)
    (h1 : l.nums.length = n1) (h2 : l.names.length = n2) (h3 : l.nots.length = n3) (hL : LexAt w a1 a2 a3 l) (hs : S.length = sn) (hsn : sn ≤ maxLen) (hS : SwapsAt w sa S)
    (hR : R.length = wn) (hw : wn ≤ maxLen) (hcap : wn ≤ wc) (hRS : Nums w wa R) (hq : L.length = rn) (hqs : ReqsAt w ra L) (hqc : ∀ q ∈ L, I64 q.c) (hstd : Std w) :
    Calls Tryz.prog 60 #[.agg #[.slice a1 n1 c1, .slice a2 n2 c2, .slice a3 n3 c3], .slice sa sn sc, .agg #[.slice wa wn wc, .int .i64 out, .int .i64 win], .slice ra rn rc] w
      (HearPost l S R out win L wa wn wc sa sn sc rn w) := by
  obtain ⟨W0, hW0⟩ : ∃ W0, W0 = ((w.alloc (.cells #[.slice a1 n1 c1, .slice a2 n2 c2, .slice a3 n3 c3] 34)).alloc (.cells #[.slice wa wn wc, .int .i64 out, .int .i64 win] 62)).alloc (.cells #[.slice none 0 0, .int .i64 0, .int .i64 0, .map none, .slice none 0 0, .slice none 0 0, .slice none 0 0] 130) := ⟨_, rfl⟩
  have hB0 : Below w.heap.size w W0 := by rw [hW0]; exact (((Below.refl _ w).alloc (Nat.le_refl _) _).alloc (by simp) _).alloc (by simp; omega) _
  have z0 : W0.heap.size = w.heap.size + 3 := by rw [hW0]; simp
  have r0 : W0.cell? ⟨w.heap.size + 1, 0, none⟩ = some (.slice wa wn wc) := by rw [hW0]; simp [go_sem]
  have r1 : W0.cell? ⟨w.heap.size + 1, 1, none⟩ = some (.int .i64 out) := by rw [hW0]; simp [go_sem]
  have r2 : W0.cell? ⟨w.heap.size + 1, 2, none⟩ = some (.int .i64 win) := by rw [hW0]; simp [go_sem]
  have hrow : W0.rowIs (w.heap.size + 1 + 1) 130 7 (row7 (.slice none 0 0) (.int .i64 0) (.int .i64 0) (.map none) (.slice none 0 0) (.slice none 0 0) (.slice none 0 0)) := by
    rw [hW0]
    have h := World.rowIs_alloc ((w.alloc (.cells #[.slice a1 n1 c1, .slice a2 n2 c2, .slice a3 n3 c3] 34)).alloc (.cells #[.slice wa wn wc, .int .i64 out, .int .i64 win] 62)) #[.slice none 0 0, .int .i64 0, .int .i64 0, .map none, .slice none 0 0, .slice none 0 0, .slice none 0 0] 130
      (row7 (.slice none 0 0) (.int .i64 0) (.int .i64 0) (.map none) (.slice none 0 0) (.slice none 0 0) (.slice none 0 0)) (fun i hi => by
        have hi' : i < 7 := hi
        rcases (by omega : i = 0 ∨ i = 1 ∨ i = 2 ∨ i = 3 ∨ i = 4 ∨ i = 5 ∨ i = 6) with rfl | rfl | rfl | rfl | rfl | rfl | rfl <;> rfl)
    rw [World.size_alloc, World.size_alloc] at h
    exact h
  have hread := read_any l a1 a2 a3 n1 n2 n3 c1 c2 c3 S sa sn sc W0 h1 h2 h3 (hL.grown hB0) hs hsn (hS.grown hB0)
  have HR := hid hR; have HQ := hid hq; have HS := hid hs
  clear hR hq h1 h2 h3 hL hs
  obtain ⟨Post, hPost⟩ : ∃ P, P = HearPost l S R out win L wa wn wc sa sn sc rn w := ⟨_, rfl⟩
  rw [← hPost]
  have HPo := hid hPost
  clear hPost
  go_enter Tryz.func60, Tryz.ntmps60
  go_wp2_with fail
  rw [← hW0]
  clear hW0
  refine hread.mono ?_
  rintro e w1 ⟨hb1, he⟩
  have hB1 := hB0.trans (hb1.mono hB0.size)
  have z1 := hb1.size
  by_cases hre : readErr l S = 0
  · rw [if_pos hre] at he
    obtain ⟨mb, hmb, rfl, hmap⟩ := he
    obtain ⟨hle, -, -⟩ := lex_of_read hre
    obtain ⟨-, hnt⟩ := lex_ok hle
    have hH : hearErr l S R out win L = if reportErr R out win = 0 then (if 20 < L.length then 3 else 0) else reportErr R out win := by rw [hearErr, if_pos hre]
    have HH := hid hH
    clear hH hre hread hle
    obtain ⟨W2, hW2⟩ : ∃ W, W = w1.alloc (.cells #[.map (some mb), .slice sa sn sc] 116) := ⟨_, rfl⟩
    have hB12 : Below w1.heap.size w1 W2 := by rw [hW2]; exact below_alloc w1 _
    have hB2 : Below w.heap.size w W2 := below_then hB1 hB12
    have hrow2 := (hrow.of_block (hb1.block _ hrow.lt)).of_block (hB12.block _ (by omega))
    have hmap2 : MapIs W2 mb (entries l) := hmap.grown hB12
    have bx : Box2 W2 w1.heap.size 116 (.map (some mb)) (.slice sa sn sc) := by rw [hW2]; exact Box2.new w1 116 _ _
    replace r0 := cell_grown hB12 (cell_grown hb1 r0)
    replace r1 := cell_grown hB12 (cell_grown hb1 r1)
    replace r2 := cell_grown hB12 (cell_grown hb1 r2)
    have rl0 := r0
    have rl1 := r1
    have rl2 := r2
    rw [hW2] at rl0 rl1 rl2
    have rll := lt_of_cell rl0
    have zz := hB12.size
    clear hmap hrow hB12 hb1 hB0 hB1
    go_wp2_with fail
    rw [← hW2]
    clear hW2 rl0 rl1 rl2 rll
    refine (checkReport_any R out win wn wc wa W2 HR.out hw (hRS.grown hB2)).mono ?_
    rintro e w3 ⟨rfl, hb3⟩
    have hB3 := below_then hB2 hb3
    have hrow3 := hrow2.of_block (hb3.block _ hrow2.lt)
    have hmap3 := hmap2.grown hb3
    have bx3 : Box2 w3 w1.heap.size 116 (.map (some mb)) (.slice sa sn sc) := (hb3.block _ bx.lt).trans bx
    replace r0 := cell_grown hb3 r0
    replace r1 := cell_grown hb3 r1
    replace r2 := cell_grown hb3 r2
    have z3 := bx3.lt
    clear hmap2 hrow2 bx hb3 hB2 zz
    clear W2
    by_cases hrp : reportErr R out win = 0
    · have hok : reportOk R out win = true := by
        unfold reportErr at hrp
        split at hrp
        · assumption
        · cases hrp
      have HH2 : Hid (hearErr l S R out win L = if 20 < L.length then 3 else 0) := hid (by rw [HH.out, if_pos hrp])
      rw [hrp]
      clear hrp HH
      by_cases h20 : 20 < rn
      · have HE : Hid (hearErr l S R out win L = 3) := hid (by rw [HH2.out, HQ.out, if_pos h20])
        have h20' : (20 : Int) < (rn : Int) := by omega
        clear HH2 hok h20
        have f0 := hrow3.frozen 0
        have g0 := hrow3.cell (i := 0) (by omega)
        have f1 := hrow3.frozen 1
        have g1 := hrow3.cell (i := 1) (by omega)
        have f2 := hrow3.frozen 2
        have g2 := hrow3.cell (i := 2) (by omega)
        have f3 := hrow3.frozen 3
        have g3 := hrow3.cell (i := 3) (by omega)
        have f4 := hrow3.frozen 4
        have g4 := hrow3.cell (i := 4) (by omega)
        have f5 := hrow3.frozen 5
        have g5 := hrow3.cell (i := 5) (by omega)
        have f6 := hrow3.frozen 6
        have g6 := hrow3.cell (i := 6) (by omega)
        simp only [row7] at g0 g1 g2 g3 g4 g5 g6
        obtain ⟨W5, hW5⟩ : ∃ W, W = set7 w3 (w.heap.size + 1 + 1) (.slice none 0 0) (.int .i64 0) (.int .i64 0) (.map none) (.slice none 0 0) (.slice none 0 0) (.slice none 0 0) := ⟨_, rfl⟩
        have hrow5 : W5.rowIs (w.heap.size + 1 + 1) 130 7 (row7 (.slice none 0 0) (.int .i64 0) (.int .i64 0) (.map none) (.slice none 0 0) (.slice none 0 0) (.slice none 0 0)) := by rw [hW5]; exact set7_row hrow3
        have hB5 : Below w.heap.size w W5 := by rw [hW5]; exact set7_below hB3 (by omega)
        unfold set7 at hW5
        go_wp2
        rw [← hW5]
        clear hW5 g0 g1 g2 g3 g4 g5 g6 f0 f1 f2 f3 f4 f5 f6
        have g0 := hrow5.cell (i := 0) (by omega)
        have g1 := hrow5.cell (i := 1) (by omega)
        have g2 := hrow5.cell (i := 2) (by omega)
        have g3 := hrow5.cell (i := 3) (by omega)
        have g4 := hrow5.cell (i := 4) (by omega)
        have g5 := hrow5.cell (i := 5) (by omega)
        have g6 := hrow5.cell (i := 6) (by omega)
        simp only [row7] at g0 g1 g2 g3 g4 g5 g6
        refine bodyPost_ret (v := .tuple #[.agg #[.slice none 0 0, .int .i64 0, .int .i64 0, .map none, .slice none 0 0, .slice none 0 0, .slice none 0 0], .int .i64 3]) (by simp [results, Tryz.f60, go_sem, g0, g1, g2, g3, g4, g5, g6]) rfl ?_
        rw [HPo.out]
        exact ⟨hB5, by rw [HE.out, if_neg (by decide)]⟩
      · have HE : Hid (hearErr l S R out win L = 0) := hid (by rw [HH2.out, HQ.out, if_neg h20])
        have h20' : ¬ (20 : Int) < (rn : Int) := by omega
        clear HH2
        have hlb := hrow3.lt
        have hmk : ∀ W : World, (Instr.makeSlice 64 (.int .i64 (rn : Int)) (.int .i64 (rn : Int))).run Tryz.prog W = .ok (.slice (some ⟨W.heap.size, 0, none⟩) rn rn) (W.alloc (.cells (madeCells #[.int .i64 0] rn) 30)) := fun W =>
          run_make_row' (P := Tryz.prog) 64 30 (.int .i64 0) 8 Tryz.underlying64 Tryz.info30 rfl .i64 .i64 rn (by omega) (by omega) W
        have y0 := bx3.c0
        have y1 := bx3.c1
        have yl := bx3.lt
        have rl := lt_of_cell r0
        have x0 : ∀ i, i < 7 → (w3.alloc (.cells (madeCells #[.int .i64 0] rn) 30)).cell? ⟨w.heap.size + 1 + 1, i, none⟩ = w3.cell? ⟨w.heap.size + 1 + 1, i, none⟩ := fun i _ => World.cell?_of_block (w := w3) (Below.heap_alloc _ _ _ hlb)
        have f0 := hrow3.frozen 0
        have f1 := hrow3.frozen 1
        have f2 := hrow3.frozen 2
        have f3 := hrow3.frozen 3
        have f4 := hrow3.frozen 4
        have f5 := hrow3.frozen 5
        have f6 := hrow3.frozen 6
        have g0 := hrow3.cell (i := 0) (by omega)
        have g1 := hrow3.cell (i := 1) (by omega)
        have g2 := hrow3.cell (i := 2) (by omega)
        have g3 := hrow3.cell (i := 3) (by omega)
        have g4 := hrow3.cell (i := 4) (by omega)
        have g5 := hrow3.cell (i := 5) (by omega)
        have g6 := hrow3.cell (i := 6) (by omega)
        simp only [row7] at g0 g1 g2 g3 g4 g5 g6
        go_wp2_with fail
        go_region
        obtain ⟨W4, hW4⟩ : ∃ W, W = ((set7 w3 (w.heap.size + 1 + 1) (.slice wa wn wc) (.int .i64 out) (.int .i64 win) (.map (some mb)) (.slice sa sn sc) (.slice none 0 0) (.slice (some ⟨w3.heap.size, 0, none⟩) rn rn)).alloc (.cells (madeCells #[.int .i64 0] rn) 30)).drew := ⟨_, rfl⟩
        have hB4 : Below w.heap.size w W4 := by rw [hW4]; exact ((set7_below hB3 (by omega)).alloc (by rw [set7_size]; exact hB3.size) _).drew
        have z4 : W4.heap.size = w3.heap.size + 1 := by rw [hW4]; show (World.alloc _ _).heap.size = _; rw [World.size_alloc, set7_size]
        obtain ⟨C, hC⟩ : ∃ C : Hc, C = ⟨wa, wn, wc, out, win, mb, sa, sn, sc, w3.heap.size, rn⟩ := ⟨_, rfl⟩
        have hear4 : W4.rowIs (w.heap.size + 1 + 1) 130 7 (hearF C (.slice none 0 0)) := by
          rw [hW4]
          refine (((set7_row hrow3).alloc (.cells (madeCells #[.int .i64 0] rn) 30)).drew).congr (fun i hi => ?_)
          rw [hC]
          rcases (by omega : i = 0 ∨ i = 1 ∨ i = 2 ∨ i = 3 ∨ i = 4 ∨ i = 5 ∨ i = 6) with rfl | rfl | rfl | rfl | rfl | rfl | rfl <;> rfl
        have row4 : W4.rowIs w3.heap.size 30 rn (fun _ => .int .i64 0) := by
          rw [hW4]
          have h := World.rowIs_made (set7 w3 (w.heap.size + 1 + 1) (.slice wa wn wc) (.int .i64 out) (.int .i64 win) (.map (some mb)) (.slice sa sn sc) (.slice none 0 0) (.slice (some ⟨w3.heap.size, 0, none⟩) rn rn)) (.int .i64 0) rn 30
          rw [set7_size] at h
          exact h.drew
        have hml := hmap3.lt
        have hmap4 : MapIs W4 mb (entries l) := hmap3.kept (by rw [hW4]; exact (Below.heap_alloc _ _ _ (by rw [set7_size]; exact hml)).trans (set7_block (by omega)))
        unfold set7 at hW4
        have HML := hid hml
        have HLB := hid hlb
        clear g0 g1 g2 g3 g4 g5 g6 f0 f1 f2 f3 f4 f5 f6 x0 y0 y1 yl rl hrow3 hmap3 bx3 r0 r1 r2 hmk hml
        go_wp2_with fail
        rw [← hW4]
        clear hW4
        have hn20 : rn ≤ 20 := by omega
        refine (taken_any L rn rc ra w W4 hB4 HQ.out hn20 hqs).mono ?_
        rintro e w5 ⟨ta, tc, T, rfl, hb5, hTok, hTs⟩
        have hB5 := below_then hB4 hb5
        have hear5 := hear4.of_block (hb5.block _ hear4.lt)
        have row5 := row4.of_block (hb5.block _ row4.lt)
        have hmap5 := hmap4.grown hb5
        have hTl : T.length = rn := by rw [hTok.1, HQ.out]
        have HTK := hid hTok
        have hC1 : C.ab = w3.heap.size := by rw [hC]
        have hC2 : C.n = rn := by rw [hC]
        have hq5 : ∀ k, k < rn → Asked w5 (w.heap.size + 1 + 1) C (aloneM (entries l) S R out win L) (T.getD k default) (zM (entries l) S R out win (L.getD (T.getD k default).i default).put (T.getD k default)) := by
          intro k hk
          have hmem : T.getD k default ∈ T := by
            rw [List.getD_eq_getElem?_getD, List.getElem?_eq_getElem (by omega), Option.getD_some]
            exact List.getElem_mem _
          obtain ⟨hi, hx⟩ := HTK.out.2.1 _ hmem
          have hxc : I64 (T.getD k default).c := by
            rw [hx.2.2.2.1]
            refine hqc _ ?_
            rw [List.getD_eq_getElem?_getD, List.getElem?_eq_getElem hi, Option.getD_some]
            exact List.getElem_mem _
          have h := asked_of (C := C) (E := entries l) (S := S) (R := R) (L := L) (x := T.getD k default) hB5 (hb := w.heap.size + 1 + 1) (by omega) (by rw [hC1]; have := hB3.size; omega) (by rw [hC]; show mb ≠ _; omega) (by rw [hC]; show mb ≠ w3.heap.size; have := HML.out; omega)
            (by rw [hC]; exact HR.out) (by rw [hC]; exact hcap) (by rw [hC]; exact hRS) (by rw [hC]; exact hok) (by rw [hC]; exact hmap5) hnt (by rw [hC]; exact HS.out) (by rw [hC]; exact hsn) (by rw [hC]; exact hS) hx hxc hstd
          rw [hC] at h ⊢
          exact h
        have hdec := decide_any w5 (w.heap.size + 1 + 1) W4.heap.size C (aloneM (entries l) S R out win L) T rn tc ta (fun k => zM (entries l) S R out win (L.getD (T.getD k default).i default).put (T.getD k default))
          hear5 (by rw [hC1, hC2]; exact row5) (by rw [hC1]; have := HLB.out; omega) hTl hn20 (fun x hx => by rw [hC2, ← HQ.out]; exact (HTK.out.2.1 x hx).1) hTs (by rw [hC1]; have := HLB.out; omega) hq5
        clear hq5 hear5 row5 hmap5 hear4 row4 hmap4 hTs
        go_wp2_with fail
        refine hdec.mono ?_
        rintro e w6 ⟨rfl, W1', va, hB1', hd⟩
        have h6 := hd.hear
        have hlh6 := h6.lt
        have hBw6 : Below w.heap.size w w6 := hd.below (below_then hB5 hB1') (by omega) (by rw [hC1]; have := hB3.size; omega) (Nat.le_trans hB5.size hB1'.size)
        have h6' : w6.rowIs (w.heap.size + 1 + 1) 130 7 (row7 (.slice wa wn wc) (.int .i64 out) (.int .i64 win) (.map (some mb)) (.slice sa sn sc) va (.slice (some ⟨w3.heap.size, 0, none⟩) rn rn)) := h6.congr (fun i hi => by
          rw [hC]
          rcases (by omega : i = 0 ∨ i = 1 ∨ i = 2 ∨ i = 3 ∨ i = 4 ∨ i = 5 ∨ i = 6) with rfl | rfl | rfl | rfl | rfl | rfl | rfl <;> rfl)
        have hrw : w6.rowIs w3.heap.size 30 rn (fun j => .int .i64 ((runA (aloneM (entries l) S R out win L) T).1 j)) := by
          have h := hd.row
          rw [hC1, hC2] at h
          exact h
        have hown := hd.own
        have hlt1 : w.heap.size + 1 + 1 < W1'.heap.size := by have := hB1'.size; have := hb5.size; have := HLB.out; omega
        have HOW := hid hown
        have HRW := hid hrw
        obtain ⟨ua, uc, rfl⟩ := owns_shape hown
        clear hown hrw hd hdec h6
        have f0 := h6'.frozen 0
        have f1 := h6'.frozen 1
        have f2 := h6'.frozen 2
        have f3 := h6'.frozen 3
        have f4 := h6'.frozen 4
        have f5 := h6'.frozen 5
        have f6 := h6'.frozen 6
        have g0 := h6'.cell (i := 0) (by omega)
        have g1 := h6'.cell (i := 1) (by omega)
        have g2 := h6'.cell (i := 2) (by omega)
        have g3 := h6'.cell (i := 3) (by omega)
        have g4 := h6'.cell (i := 4) (by omega)
        have g5 := h6'.cell (i := 5) (by omega)
        have g6 := h6'.cell (i := 6) (by omega)
        simp only [row7] at g0 g1 g2 g3 g4 g5 g6
        obtain ⟨V, hV⟩ : ∃ V, V = (runA (aloneM (entries l) S R out win L) T).2 := ⟨_, rfl⟩
        rw [← hV] at g5 h6' HOW
        have HV := hid hV
        clear hV
        obtain ⟨W7, hW7⟩ : ∃ W, W = set7 w6 (w.heap.size + 1 + 1) (.slice wa wn wc) (.int .i64 out) (.int .i64 win) (.map (some mb)) (.slice sa sn sc) (.slice ua V.length uc) (.slice (some ⟨w3.heap.size, 0, none⟩) rn rn) := ⟨_, rfl⟩
        have hrow7 : W7.rowIs (w.heap.size + 1 + 1) 130 7 (row7 (.slice wa wn wc) (.int .i64 out) (.int .i64 win) (.map (some mb)) (.slice sa sn sc) (.slice ua V.length uc) (.slice (some ⟨w3.heap.size, 0, none⟩) rn rn)) := by rw [hW7]; exact set7_row h6'
        have hB7 : Below w.heap.size w W7 := by rw [hW7]; exact set7_below hBw6 (by omega)
        have hrw7 : Hid (W7.rowIs w3.heap.size 30 rn (fun j => .int .i64 ((runA (aloneM (entries l) S R out win L) T).1 j))) := hid (by rw [hW7]; exact HRW.out.of_block (set7_block (by have := HLB.out; omega)))
        have how7 : Hid (W7.ownsRow W1'.heap.size 162 6 (.slice ua V.length uc) V.length (flatV askC V)) := hid (by rw [hW7]; exact set7_owns HOW.out hlt1)
        unfold set7 at hW7
        go_wp2
        rw [← hW7]
        clear hW7 g0 g1 g2 g3 g4 g5 g6 f0 f1 f2 f3 f4 f5 f6
        have g0 := hrow7.cell (i := 0) (by omega)
        have g1 := hrow7.cell (i := 1) (by omega)
        have g2 := hrow7.cell (i := 2) (by omega)
        have g3 := hrow7.cell (i := 3) (by omega)
        have g4 := hrow7.cell (i := 4) (by omega)
        have g5 := hrow7.cell (i := 5) (by omega)
        have g6 := hrow7.cell (i := 6) (by omega)
        simp only [row7] at g0 g1 g2 g3 g4 g5 g6
        refine bodyPost_ret (v := .tuple #[.agg #[.slice wa wn wc, .int .i64 out, .int .i64 win, .map (some mb), .slice sa sn sc, .slice ua V.length uc, .slice (some ⟨w3.heap.size, 0, none⟩) rn rn], .int .i64 0]) (by simp [results, Tryz.f60, go_sem, g0, g1, g2, g3, g4, g5, g6]) rfl ?_
        rw [HPo.out]
        refine ⟨hB7, ?_⟩
        rw [if_pos HE.out]
        have hw3 := hB3.size
        have hw1 := hB1'.size
        have hw5 := hB5.size
        exact ⟨mb, w3.heap.size, .slice ua V.length uc, T, rfl, hw3, HTK.out, hrw7.out, by rw [← HV.out]; exact how7.out.mono (by omega)⟩
    · have HE : Hid (hearErr l S R out win L = reportErr R out win ∧ ¬ reportErr R out win = 0) := hid ⟨by rw [HH.out, if_neg hrp], hrp⟩
      generalize reportErr R out win = er at hrp HE ⊢
      have hne : (er != 0) = true := by simpa using hrp
      clear hrp HH
      have f0 := hrow3.frozen 0
      have g0 := hrow3.cell (i := 0) (by omega)
      have f1 := hrow3.frozen 1
      have g1 := hrow3.cell (i := 1) (by omega)
      have f2 := hrow3.frozen 2
      have g2 := hrow3.cell (i := 2) (by omega)
      have f3 := hrow3.frozen 3
      have g3 := hrow3.cell (i := 3) (by omega)
      have f4 := hrow3.frozen 4
      have g4 := hrow3.cell (i := 4) (by omega)
      have f5 := hrow3.frozen 5
      have g5 := hrow3.cell (i := 5) (by omega)
      have f6 := hrow3.frozen 6
      have g6 := hrow3.cell (i := 6) (by omega)
      simp only [row7] at g0 g1 g2 g3 g4 g5 g6
      obtain ⟨W5, hW5⟩ : ∃ W, W = set7 w3 (w.heap.size + 1 + 1) (.slice none 0 0) (.int .i64 0) (.int .i64 0) (.map none) (.slice none 0 0) (.slice none 0 0) (.slice none 0 0) := ⟨_, rfl⟩
      have hrow5 : W5.rowIs (w.heap.size + 1 + 1) 130 7 (row7 (.slice none 0 0) (.int .i64 0) (.int .i64 0) (.map none) (.slice none 0 0) (.slice none 0 0) (.slice none 0 0)) := by rw [hW5]; exact set7_row hrow3
      have hB5 : Below w.heap.size w W5 := by rw [hW5]; exact set7_below hB3 (by omega)
      unfold set7 at hW5
      go_wp2
      rw [← hW5]
      clear hW5 g0 g1 g2 g3 g4 g5 g6 f0 f1 f2 f3 f4 f5 f6
      have g0 := hrow5.cell (i := 0) (by omega)
      have g1 := hrow5.cell (i := 1) (by omega)
      have g2 := hrow5.cell (i := 2) (by omega)
      have g3 := hrow5.cell (i := 3) (by omega)
      have g4 := hrow5.cell (i := 4) (by omega)
      have g5 := hrow5.cell (i := 5) (by omega)
      have g6 := hrow5.cell (i := 6) (by omega)
      simp only [row7] at g0 g1 g2 g3 g4 g5 g6
      refine bodyPost_ret (v := .tuple #[.agg #[.slice none 0 0, .int .i64 0, .int .i64 0, .map none, .slice none 0 0, .slice none 0 0, .slice none 0 0], .int .i64 er]) (by simp [results, Tryz.f60, go_sem, g0, g1, g2, g3, g4, g5, g6]) rfl ?_
      rw [HPo.out]
      exact ⟨hB5, by rw [HE.out.1, if_neg HE.out.2]⟩
  · rw [if_neg hre] at he
    subst he
    have hH : hearErr l S R out win L = readErr l S := by rw [hearErr, if_neg hre]
    have hrow1 := hrow.of_block (hb1.block _ hrow.lt)
    obtain ⟨er, her⟩ : ∃ er, readErr l S = er := ⟨_, rfl⟩
    rw [her] at hre hH
    rw [her]
    have HE := hid (⟨hH, hre⟩ : hearErr l S R out win L = er ∧ ¬ er = 0)
    have hne : (er != 0) = true := by simpa using hre
    clear hH hre her
    obtain ⟨W2, hW2⟩ : ∃ W, W = w1.alloc (.cells #[.map none, .slice none 0 0] 116) := ⟨_, rfl⟩
    have hB2 : Below w.heap.size w W2 := by rw [hW2]; exact hB1.alloc hB1.size _
    have hrow2 := hrow1.alloc (.cells #[.map none, .slice none 0 0] 116)
    rw [← hW2] at hrow2
    have f0 := hrow2.frozen 0
    have g0 := hrow2.cell (i := 0) (by omega)
    have g1 := hrow2.cell (i := 1) (by omega)
    have g2 := hrow2.cell (i := 2) (by omega)
    have g3 := hrow2.cell (i := 3) (by omega)
    have g4 := hrow2.cell (i := 4) (by omega)
    have g5 := hrow2.cell (i := 5) (by omega)
    have g6 := hrow2.cell (i := 6) (by omega)
    have f1 := hrow2.frozen 1
    have f2 := hrow2.frozen 2
    have f3 := hrow2.frozen 3
    have f4 := hrow2.frozen 4
    have f5 := hrow2.frozen 5
    have f6 := hrow2.frozen 6
    simp only [row7] at g0 g1 g2 g3 g4 g5 g6
    rw [hW2] at f0 f1 f2 f3 f4 f5 f6 g0 g1 g2 g3 g4 g5 g6
    obtain ⟨W5, hW5⟩ : ∃ W, W = set7 W2 (w.heap.size + 1 + 1) (.slice none 0 0) (.int .i64 0) (.int .i64 0) (.map none) (.slice none 0 0) (.slice none 0 0) (.slice none 0 0) := ⟨_, rfl⟩
    have hrow5 : W5.rowIs (w.heap.size + 1 + 1) 130 7 (row7 (.slice none 0 0) (.int .i64 0) (.int .i64 0) (.map none) (.slice none 0 0) (.slice none 0 0) (.slice none 0 0)) := by rw [hW5]; exact set7_row hrow2
    have hB5 : Below w.heap.size w W5 := by rw [hW5]; exact set7_below hB2 (by omega)
    unfold set7 at hW5
    rw [hW2] at hW5
    go_wp2
    rw [← hW5]
    clear hW5 g0 g1 g2 g3 g4 g5 g6 f0 f1 f2 f3 f4 f5 f6
    have g0 := hrow5.cell (i := 0) (by omega)
    have g1 := hrow5.cell (i := 1) (by omega)
    have g2 := hrow5.cell (i := 2) (by omega)
    have g3 := hrow5.cell (i := 3) (by omega)
    have g4 := hrow5.cell (i := 4) (by omega)
    have g5 := hrow5.cell (i := 5) (by omega)
    have g6 := hrow5.cell (i := 6) (by omega)
    simp only [row7] at g0 g1 g2 g3 g4 g5 g6
    refine bodyPost_ret (v := .tuple #[.agg #[.slice none 0 0, .int .i64 0, .int .i64 0, .map none, .slice none 0 0, .slice none 0 0, .slice none 0 0], .int .i64 er]) (by simp [results, Tryz.f60, go_sem, g0, g1, g2, g3, g4, g5, g6]) rfl ?_
    rw [HPo.out]
    exact ⟨hB5, by rw [HE.out.1, if_neg HE.out.2]⟩

end Go.Proofs.YtbampfkmgjfofaaGreatDoor

namespace Go.Proofs.YtbampfkmgjfofaaGreatDoor
open Go.RowKit

/-- What Decide returns, with its memory. -/
def DecidePost (l : Lex) (S : List (Int × Int × Int)) (R : List (Tx × Int)) (out win : Int) (L : List Req) (rn : Nat) (w : World) (e : Ending) (w' : World) : Prop :=
  Below w.heap.size w w' ∧ if hearErr l S R out win L = 0 then ∃ ab T, e = .returned (.tuple #[.slice (some ⟨ab, 0, none⟩) rn rn, .int .i64 0]) ∧ TakenOk w L T ∧
      w'.rowIs ab 30 rn (fun j => .int .i64 ((runA (aloneM (entries l) S R out win L) T).1 j))
    else e = .returned (.tuple #[.slice none 0 0, .int .i64 (hearErr l S R out win L)])

theorem Strs.older {w w' : World} {a : Option Addr} {L : List Tx} (_h : Strs w' a L) (hw : Strs w a L) (_hb : Below w.heap.size w w') : Strs w a L := hw

set_option maxRecDepth 100000 in
set_option maxHeartbeats 4000000 in
theorem decideF_any (l : Lex) (a1 a2 a3 : Option Addr) (n1 n2 n3 c1 c2 c3 : Nat) (S : List (Int × Int × Int)) (sa : Option Addr) (sn sc : Nat) (R : List (Tx × Int)) (wa : Option Addr) (wn wc : Nat) (out win : Int) (L : List Req) (ra : Option Addr) (rn rc : Nat) (w : World)
    (h1 : l.nums.length = n1) (h2 : l.names.length = n2) (h3 : l.nots.length = n3) (hL : LexAt w a1 a2 a3 l) (hs : S.length = sn) (hsn : sn ≤ maxLen) (hS : SwapsAt w sa S)
    (hR : R.length = wn) (hw : wn ≤ maxLen) (hcap : wn ≤ wc) (hRS : Nums w wa R) (hq : L.length = rn) (hqs : ReqsAt w ra L) (hqc : ∀ q ∈ L, I64 q.c) (hstd : Std w) :
    Calls Tryz.prog 33 #[.agg #[.slice a1 n1 c1, .slice a2 n2 c2, .slice a3 n3 c3], .slice sa sn sc, .agg #[.slice wa wn wc, .int .i64 out, .int .i64 win], .slice ra rn rc] w
      (fun e w' => ∃ W, Below w.heap.size w W ∧ DecidePost l S R out win L rn W e w') := by
  obtain ⟨W1, hW1⟩ : ∃ W, W = (w.alloc (.cells #[.slice a1 n1 c1, .slice a2 n2 c2, .slice a3 n3 c3] 34)).alloc (.cells #[.slice wa wn wc, .int .i64 out, .int .i64 win] 62) := ⟨_, rfl⟩
  have hB1 : Below w.heap.size w W1 := by rw [hW1]; exact ((Below.refl _ w).alloc (Nat.le_refl _) _).alloc (by simp) _
  have hcon := hear_any l a1 a2 a3 n1 n2 n3 c1 c2 c3 S sa sn sc R wa wn wc out win L ra rn rc W1 h1 h2 h3 (hL.grown hB1) hs hsn (hS.grown hB1) hR hw hcap (hRS.grown hB1) hq (hqs.grown hB1) hqc (hstd.grown hB1)
  clear h1 h2 h3 hL hs hS hR hRS hq hqs hqc hstd hw hcap hsn
  go_enter Tryz.func33, Tryz.ntmps33
  go_wp2_with fail
  rw [← hW1]
  clear hW1
  refine hcon.mono ?_
  rintro e w2 ⟨hb2, he⟩
  by_cases h0 : hearErr l S R out win L = 0
  · rw [if_pos h0] at he
    obtain ⟨mb, ab, va, T, rfl, hab, hT, hrow, hown⟩ := he
    obtain ⟨ua, uc, rfl⟩ := owns_shape hown
    have H0 := hid h0
    have HR := hid hrow
    generalize (runA (aloneM (entries l) S R out win L) T).2 = V at hown ⊢
    clear h0 hcon hown hrow
    go_wp2
    exact bodyPost_ret (v := .tuple #[.slice (some ⟨ab, 0, none⟩) rn rn, .int .i64 0]) (by simp [results, Tryz.f33, go_sem]) rfl ⟨W1, hB1, hb2.alloc hb2.size _, by rw [if_pos H0.out]; exact ⟨ab, T, rfl, hT, HR.out.alloc _⟩⟩
  · rw [if_neg h0] at he
    subst he
    have H0 := hid h0
    obtain ⟨er, her⟩ : ∃ er, hearErr l S R out win L = er := ⟨_, rfl⟩
    rw [her]
    have HE := hid her
    clear h0 hcon her
    go_wp2
    exact bodyPost_ret (v := .tuple #[.slice none 0 0, .int .i64 er]) (by simp [results, Tryz.f33, go_sem]) rfl ⟨W1, hB1, hb2.alloc hb2.size _, by rw [if_neg H0.out, HE.out]⟩

end Go.Proofs.YtbampfkmgjfofaaGreatDoor
