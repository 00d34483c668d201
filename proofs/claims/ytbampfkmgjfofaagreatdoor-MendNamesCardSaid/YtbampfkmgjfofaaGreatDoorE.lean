/- Mend: which texts, words, swaps and names are as they have to be. Mend: which numbers, names, words, swaps, lists of texts and reports are as they have to be. Mend: which lexica, reports, and lists of texts are as they have to be. -/
import Derived.Test.YtbampfkmgjfofaaGreatDoorB
import Derived.Lib.ConvBytes
import Derived.Lib.AtoiErrMem
namespace Go.Proofs.YtbampfkmgjfofaaGreatDoor
open Go.RowKit

/-- May the text be one of a word? -/
def textOk (t : Tx) : Bool := inB t.size 1 32 && t.data.toList.all fun b => byteOk b.toNat

theorem allN_of (n : Nat) (q : Nat → Bool) : allN n q = true ↔ ∀ i, i < n → q i = true := by
  unfold allN
  rw [List.all_eq_true]
  exact ⟨fun h i hi => h i (List.mem_range.2 hi), fun h i hi => h i (List.mem_range.1 hi)⟩

theorem allN_list {α : Type} (L : List α) (d : α) (f : α → Bool) : (allN L.length fun i => f (L.getD i d)) = L.all f := by
  rw [Bool.eq_iff_iff, allN_of, List.all_eq_true]
  constructor
  · intro h x hx
    obtain ⟨i, hi, rfl⟩ := List.mem_iff_getElem.1 hx
    have := h i hi
    rwa [List.getD_eq_getElem?_getD, List.getElem?_eq_getElem hi, Option.getD_some] at this
  · intro h i hi
    rw [List.getD_eq_getElem?_getD, List.getElem?_eq_getElem hi, Option.getD_some]
    exact h _ (List.getElem_mem hi)

theorem anyN_list {α : Type} (L : List α) (d : α) (f : α → Bool) : (anyN L.length fun i => f (L.getD i d)) = L.any f := by
  rw [Bool.eq_iff_iff]
  unfold anyN
  rw [List.any_eq_true, List.any_eq_true]
  constructor
  · rintro ⟨i, hi, h⟩
    have hi' := List.mem_range.1 hi
    rw [List.getD_eq_getElem?_getD, List.getElem?_eq_getElem hi', Option.getD_some] at h
    exact ⟨_, List.getElem_mem hi', h⟩
  · rintro ⟨x, hx, h⟩
    obtain ⟨i, hi, rfl⟩ := List.mem_iff_getElem.1 hx
    refine ⟨i, List.mem_range.2 hi, ?_⟩
    rw [List.getD_eq_getElem?_getD, List.getElem?_eq_getElem hi, Option.getD_some]
    exact h

set_option maxRecDepth 100000 in
set_option maxHeartbeats 1000000 in
theorem validText_any (s : Tx) (w : World) :
    Calls Tryz.prog 72 #[.string s] w fun e w' => e = .returned (.bool (textOk s)) ∧ Below w.heap.size w w' := by
  obtain ⟨z, hz⟩ : ∃ z, textOk s = z := ⟨_, rfl⟩
  rw [hz]
  have HZ := hid hz
  clear hz
  have hLn : s.data.toList.length = s.size := by rw [Array.length_toList]; rfl
  have HLn := hid hLn
  clear hLn
  have hcv := Lib.run_convert_string_bytes (P := Tryz.prog) w 9 175 5 s (u := .string) Tryz.underlying9 Tryz.underlying175 Tryz.underlying5
  have hbw := Lib.bytesWorld_below w 5 s
  have hcl := fun j hj => Lib.bytesWorld_cell w 5 s j hj
  generalize Lib.bytesWorld w 5 s = W1 at hcv hbw hcl
  go_enter Tryz.func72, Tryz.ntmps72
  go_wp2_with fail
  refine (within_any s.size 1 32 w).mono ?_
  rintro e w' ⟨rfl, rfl⟩
  cases h1 : inB s.size 1 32
  · have hzf : z = false := by rw [← HZ.out, textOk, h1]; rfl
    clear h1
    go_wp2_with fail
    go_ret
    exact ⟨by rw [hzf]; rfl, Below.refl _ _⟩
  have H1 := hid h1
  clear h1
  have hn : s.size ≤ maxLen := by
    have := H1.out
    simp only [inB, decide_eq_true_eq] at this
    unfold maxLen
    omega
  have HN := hid hn
  clear hn
  go_wp2_with fail
  refine (allByte_any (fun i => byteOk ((s.data.toList.getD i 0).toNat : Int)) (fun i => ((s.data.toList.getD i 0).toNat : Int)) 105 #[] (enters_of Tryz.func105 (by kernel_rfl) rfl) s.size _ _ W1 HN.out (fun i hi => ⟨_, 0, rfl, by rw [Nat.zero_add]; exact hcl i hi⟩) (fun i hi W hW => ?_)).mono ?_
  · refine (byteOk_any _ W ?_).mono ?_
    · have := (s.data.toList.getD i 0).toNat_lt
      omega
    · rintro e w' ⟨rfl, rfl⟩
      exact ⟨rfl, Below.refl _ _⟩
  rintro e w' ⟨rfl, hb⟩
  have hzz : (allN s.size fun i => byteOk ((s.data.toList.getD i 0).toNat : Int)) = z := by
    rw [← HZ.out, textOk, H1.out, Bool.true_and, ← allN_list _ 0, HLn.out]
  rw [hzz]
  clear hzz
  go_wp2_with fail
  go_ret
  exact ⟨rfl, hbw.trans (hb.mono hbw.size)⟩

end Go.Proofs.YtbampfkmgjfofaaGreatDoor

namespace Go.Proofs.YtbampfkmgjfofaaGreatDoor
open Go.RowKit

def numOk (n : Tx × Int) : Bool := textOk n.1 && valueOk n.2
def saidOk (n : Tx × Int) : Bool := textOk n.1 && memberOk n.2
def nameOk (l : List Tx) : Bool := inB l.length 1 5 && l.all textOk
def swapOk (s : Int × Int × Int) : Bool := (decide (s.1 = 1) || decide (s.1 = 2)) && (valueOk s.2.1 && valueOk s.2.2)

set_option maxHeartbeats 400000 in
theorem numOk_any (s : Tx) (v : Int) (w : World) :
    Calls Tryz.prog 94 #[.agg #[.string s, .int .i64 v]] w fun e w' => e = .returned (.bool (numOk (s, v))) ∧ Below w.heap.size w w' := by
  obtain ⟨z, hz⟩ : ∃ z, numOk (s, v) = z := ⟨_, rfl⟩
  rw [hz]
  have HZ := hid hz
  clear hz
  go_enter Tryz.func94, Tryz.ntmps94
  go_wp2_with fail
  obtain ⟨W1, hW1⟩ : ∃ W, W = w.alloc (.cells #[.string s, .int .i64 v] 119) := ⟨_, rfl⟩
  have hB1 : Below w.heap.size w W1 := by rw [hW1]; exact below_alloc w _
  have c1 : W1.cell? ⟨w.heap.size, 1, none⟩ = some (.int .i64 v) := by rw [hW1]; simp [go_sem]
  rw [← hW1]
  clear hW1
  refine (validText_any s W1).mono ?_
  rintro e w' ⟨rfl, hb⟩
  have hB2 := below_then hB1 hb
  replace c1 := cell_grown hb c1
  have g1 := lt_of_cell c1
  cases h1 : textOk s
  · have hzf : z = false := by rw [← HZ.out, numOk, h1]; rfl
    clear h1
    go_wp2
    go_ret
    exact ⟨by rw [hzf]; rfl, hB2⟩
  · have hzf : valueOk v = z := by rw [← HZ.out, numOk, h1]; rfl
    clear h1
    go_wp2_with fail
    refine (validValue_any v _).mono ?_
    rintro e w2 ⟨rfl, rfl⟩
    rw [hzf]
    go_wp2
    go_ret
    exact ⟨rfl, hB2⟩

set_option maxHeartbeats 400000 in
theorem saidOk_any (s : Tx) (v : Int) (w : World) :
    Calls Tryz.prog 77 #[.agg #[.string s, .int .i64 v]] w fun e w' => e = .returned (.bool (saidOk (s, v))) ∧ Below w.heap.size w w' := by
  obtain ⟨z, hz⟩ : ∃ z, saidOk (s, v) = z := ⟨_, rfl⟩
  rw [hz]
  have HZ := hid hz
  clear hz
  go_enter Tryz.func77, Tryz.ntmps77
  go_wp2_with fail
  obtain ⟨W1, hW1⟩ : ∃ W, W = w.alloc (.cells #[.string s, .int .i64 v] 104) := ⟨_, rfl⟩
  have hB1 : Below w.heap.size w W1 := by rw [hW1]; exact below_alloc w _
  have c1 : W1.cell? ⟨w.heap.size, 1, none⟩ = some (.int .i64 v) := by rw [hW1]; simp [go_sem]
  rw [← hW1]
  clear hW1
  refine (validText_any s W1).mono ?_
  rintro e w' ⟨rfl, hb⟩
  have hB2 := below_then hB1 hb
  replace c1 := cell_grown hb c1
  have g1 := lt_of_cell c1
  cases h1 : textOk s
  · have hzf : z = false := by rw [← HZ.out, saidOk, h1]; rfl
    clear h1
    go_wp2
    go_ret
    exact ⟨by rw [hzf]; rfl, hB2⟩
  · have hzf : memberOk v = z := by rw [← HZ.out, saidOk, h1]; rfl
    clear h1
    go_wp2_with fail
    refine (validMember_any v _).mono ?_
    rintro e w2 ⟨rfl, rfl⟩
    rw [hzf]
    go_wp2
    go_ret
    exact ⟨rfl, hB2⟩

set_option maxHeartbeats 1000000 in
theorem swapOk_any (k o n : Int) (w : World) :
    Calls Tryz.prog 67 #[.agg #[.int .u8 k, .int .i64 o, .int .i64 n]] w fun e w' => e = .returned (.bool (swapOk (k, o, n))) ∧ Below w.heap.size w w' := by
  obtain ⟨z, hz⟩ : ∃ z, swapOk (k, o, n) = z := ⟨_, rfl⟩
  rw [hz]
  have HZ := hid hz
  clear hz
  have hB := below_alloc w (.cells #[.int .u8 k, .int .i64 o, .int .i64 n] 89)
  go_enter Tryz.func67, Tryz.ntmps67
  by_cases h1 : k = 1
  · subst h1
    cases h2 : valueOk o
    · have hzf : z = false := by rw [← HZ.out]; simp [swapOk, h2]
      go_wp2_with (go_at_call 95; refine (validValue_any _ _).mono ?_; rintro e w' ⟨rfl, rfl⟩)
      go_ret
      exact ⟨by rw [hzf]; rfl, hB⟩
    · have hzf : z = valueOk n := by rw [← HZ.out]; simp [swapOk, h2]
      go_wp2_with (go_at_call 95; refine (validValue_any _ _).mono ?_; rintro e w' ⟨rfl, rfl⟩)
      go_ret
      exact ⟨by rw [hzf]; rfl, hB⟩
  · by_cases h3 : k = 2
    · subst h3
      cases h2 : valueOk o
      · have hzf : z = false := by rw [← HZ.out]; simp [swapOk, h2]
        go_wp2_with (go_at_call 95; refine (validValue_any _ _).mono ?_; rintro e w' ⟨rfl, rfl⟩)
        go_ret
        exact ⟨by rw [hzf]; rfl, hB⟩
      · have hzf : z = valueOk n := by rw [← HZ.out]; simp [swapOk, h2]
        go_wp2_with (go_at_call 95; refine (validValue_any _ _).mono ?_; rintro e w' ⟨rfl, rfl⟩)
        go_ret
        exact ⟨by rw [hzf]; rfl, hB⟩
    · have hzf : z = false := by rw [← HZ.out]; simp [swapOk, h1, h3]
      go_wp2
      go_ret
      exact ⟨by rw [hzf]; simp_all, hB⟩

set_option maxHeartbeats 400000 in
theorem allTexts_any (L : List Tx) (n cap : Nat) (a : Option Addr) (w : World) (hL : L.length = n) (hn : n ≤ maxLen) (hS : Strs w a L) :
    Calls Tryz.prog 71 #[.slice a n cap, .func (.func 72) #[] #[]] w fun e w' => e = .returned (.bool (L.all textOk)) ∧ Below w.heap.size w w' := by
  have h := allStr_any (fun i => textOk (L.getD i .empty)) (fun i => L.getD i .empty) 72 #[] (enters_of Tryz.func72 (by kernel_rfl) rfl) n cap a w hn (fun i hi => hS i (by omega)) (fun i hi W hW => validText_any _ W)
  rwa [← hL, allN_list, hL] at h

set_option maxHeartbeats 400000 in
theorem nameOk_any (L : List Tx) (n cap : Nat) (a : Option Addr) (w : World) (hL : L.length = n) (hn : n ≤ maxLen) (hS : Strs w a L) :
    Calls Tryz.prog 96 #[.slice a n cap] w fun e w' => e = .returned (.bool (nameOk L)) ∧ Below w.heap.size w w' := by
  obtain ⟨z, hz⟩ : ∃ z, nameOk L = z := ⟨_, rfl⟩
  rw [hz]
  have HZ : Hid ((inB n 1 5 && L.all textOk) = z) := hid (by rw [← hz, nameOk, hL])
  have HL := hid hL
  clear hz hL
  have hcall := allTexts_any L n cap a w HL.out hn hS
  go_enter Tryz.func96, Tryz.ntmps96
  go_wp2_with fail
  refine (within_any n 1 5 w).mono ?_
  rintro e w' ⟨rfl, rfl⟩
  cases h1 : inB n 1 5
  · have hzf : z = false := by rw [← HZ.out, h1]; rfl
    clear h1
    go_wp2
    go_ret
    exact ⟨by rw [hzf]; rfl, Below.refl _ _⟩
  · have hzf : L.all textOk = z := by rw [← HZ.out, h1]; rfl
    rw [hzf] at hcall
    clear h1 hzf
    go_wp2_with fail
    refine hcall.mono ?_
    rintro e w' ⟨rfl, hb⟩
    go_wp2
    go_ret
    exact ⟨rfl, hb⟩

end Go.Proofs.YtbampfkmgjfofaaGreatDoor

namespace Go.Proofs.YtbampfkmgjfofaaGreatDoor
open Go.RowKit

/-- A lexicon: numbers, names, negations. -/
structure Lex where
  nums : List (Tx × Int)
  names : List (List Tx)
  nots : List Tx

/-- A lexicon, as it lies in memory. -/
structure LexAt (w : World) (a1 a2 a3 : Option Addr) (l : Lex) : Prop where
  nums : Nums w a1 l.nums
  names : Lists w a2 l.names
  nots : Strs w a3 l.nots
  n1 : l.nums.length ≤ maxLen
  n2 : l.names.length ≤ maxLen
  n3 : l.nots.length ≤ maxLen

theorem LexAt.grown {w w' : World} {a1 a2 a3 : Option Addr} {l : Lex} (h : LexAt w a1 a2 a3 l) (hb : Below w.heap.size w w') : LexAt w' a1 a2 a3 l :=
  ⟨h.nums.grown hb, h.names.grown hb, h.nots.grown hb, h.n1, h.n2, h.n3⟩

/-- Are there at most so many of each? -/
def lexFew (l : Lex) : Bool := decide (l.nums.length ≤ 40) && (decide (l.names.length ≤ 40) && decide (l.nots.length ≤ 40))

def lexOk (l : Lex) : Bool := lexFew l && (l.nums.all numOk && (l.names.all nameOk && l.nots.all textOk))

set_option maxHeartbeats 400000 in
theorem allNums_any (L : List (Tx × Int)) (n cap : Nat) (a : Option Addr) (w : World) (hL : L.length = n) (hn : n ≤ maxLen) (hS : Nums w a L) :
    Calls Tryz.prog 93 #[.slice a n cap, .func (.func 94) #[] #[]] w fun e w' => e = .returned (.bool (L.all numOk)) ∧ Below w.heap.size w w' := by
  have h := allNum_any (fun i => numOk (L.getD i (.empty, 0))) (fun i => (L.getD i (.empty, 0)).1) (fun i => (L.getD i (.empty, 0)).2) 94 #[] (enters_of Tryz.func94 (by kernel_rfl) rfl) n cap a w hn (fun i hi => hS i (by omega)) (fun i hi W hW => numOk_any _ _ W)
  rwa [← hL, allN_list, hL] at h

set_option maxHeartbeats 400000 in
theorem allSaids_any (L : List (Tx × Int)) (n cap : Nat) (a : Option Addr) (w : World) (hL : L.length = n) (hn : n ≤ maxLen) (hS : Nums w a L) :
    Calls Tryz.prog 76 #[.slice a n cap, .func (.func 77) #[] #[]] w fun e w' => e = .returned (.bool (L.all saidOk)) ∧ Below w.heap.size w w' := by
  have h := allSaid_any (fun i => saidOk (L.getD i (.empty, 0))) (fun i => (L.getD i (.empty, 0)).1) (fun i => (L.getD i (.empty, 0)).2) 77 #[] (enters_of Tryz.func77 (by kernel_rfl) rfl) n cap a w hn (fun i hi => hS i (by omega)) (fun i hi W hW => saidOk_any _ _ W)
  rwa [← hL, allN_list, hL] at h

set_option maxHeartbeats 400000 in
theorem allSwaps_any (L : List (Int × Int × Int)) (n cap : Nat) (a : Option Addr) (w : World) (hL : L.length = n) (hn : n ≤ maxLen) (hS : SwapsAt w a L) :
    Calls Tryz.prog 66 #[.slice a n cap, .func (.func 67) #[] #[]] w fun e w' => e = .returned (.bool (L.all swapOk)) ∧ Below w.heap.size w w' := by
  have h := allSwap_any (fun i => swapOk (L.getD i (0, 0, 0))) (fun i => (L.getD i (0, 0, 0)).1) (fun i => (L.getD i (0, 0, 0)).2.1) (fun i => (L.getD i (0, 0, 0)).2.2) 67 #[] (enters_of Tryz.func67 (by kernel_rfl) rfl) n cap a w hn (fun i hi => hS i (by omega)) (fun i hi W hW => swapOk_any _ _ _ W)
  rwa [← hL, allN_list, hL] at h

/-- The places of a list of lists, one by one. -/
theorem Lists.each {w : World} {a : Option Addr} {L : List (List Tx)} (h : Lists w a L) : ∃ (sa : Nat → Option Addr) (sc : Nat → Nat), ∀ i, i < L.length → ∃ b off, a = some ⟨b, off, none⟩ ∧ w.cell? ⟨b, off + i, none⟩ = some (.slice (sa i) (L.getD i []).length (sc i)) ∧ (L.getD i []).length ≤ maxLen ∧ Strs w (sa i) (L.getD i []) := by
  have h' : ∀ i, ∃ p : Option Addr × Nat, i < L.length → ∃ b off, a = some ⟨b, off, none⟩ ∧ w.cell? ⟨b, off + i, none⟩ = some (.slice p.1 (L.getD i []).length p.2) ∧ (L.getD i []).length ≤ maxLen ∧ Strs w p.1 (L.getD i []) := by
    intro i
    by_cases hi : i < L.length
    · obtain ⟨b, off, ai, ci, h1, h2, h3, h4⟩ := h i hi
      exact ⟨(ai, ci), fun _ => ⟨b, off, h1, h2, h3, h4⟩⟩
    · exact ⟨(none, 0), fun h => absurd h hi⟩
  obtain ⟨p, hp⟩ := Classical.axiomOfChoice h'
  exact ⟨fun i => (p i).1, fun i => (p i).2, fun i hi => hp i hi⟩

set_option maxHeartbeats 400000 in
theorem allNames_any (L : List (List Tx)) (n cap : Nat) (a : Option Addr) (w : World) (hL : L.length = n) (hn : n ≤ maxLen) (hS : Lists w a L) :
    Calls Tryz.prog 68 #[.slice a n cap, .func (.func 96) #[] #[]] w fun e w' => e = .returned (.bool (L.all nameOk)) ∧ Below w.heap.size w w' := by
  obtain ⟨sa, sc, hE⟩ := hS.each
  have h := allList_any (fun i => nameOk (L.getD i [])) sa (fun i => (L.getD i []).length) sc 96 #[] (enters_of Tryz.func96 (by kernel_rfl) rfl) n cap a w hn (fun i hi => by
    obtain ⟨b, off, h1, h2, -, -⟩ := hE i (by omega)
    exact ⟨b, off, h1, h2⟩) (fun i hi W hW => by
    obtain ⟨b, off, h1, h2, h3, h4⟩ := hE i (by omega)
    exact nameOk_any _ _ _ _ W rfl h3 (h4.grown hW))
  rwa [← hL, allN_list, hL] at h

set_option maxHeartbeats 400000 in
theorem short80_any (a : Option Addr) (n cap : Nat) (w : World) :
    Calls Tryz.prog 69 #[.slice a n cap] w fun e w' => e = .returned (.bool (decide (n ≤ 80))) ∧ Below w.heap.size w w' := by
  go_enter Tryz.func69, Tryz.ntmps69
  by_cases h : n ≤ 80
  · have h' : (n : Int) ≤ 80 := by omega
    go_wp2
    go_ret
    exact ⟨by simp [h], Below.refl _ _⟩
  · have h' : ¬ (n : Int) ≤ 80 := by omega
    go_wp2
    go_ret
    exact ⟨by simp, Below.refl _ _⟩

set_option maxHeartbeats 400000 in
theorem textsOk_any (L : List Tx) (n cap : Nat) (a : Option Addr) (w : World) (hL : L.length = n) (hn : n ≤ maxLen) (hS : Strs w a L) :
    Calls Tryz.prog 70 #[.slice a n cap] w fun e w' => e = .returned (.bool (L.all textOk)) ∧ Below w.heap.size w w' := by
  go_enter Tryz.func70, Tryz.ntmps70
  go_wp2_with (go_at_call 71; refine (allTexts_any L n cap a w hL hn hS).mono ?_; rintro e w' ⟨rfl, hb⟩)
  go_ret
  exact ⟨rfl, hb⟩

/-- The error of lists of texts. -/
def textsErr (L : List (List Tx)) : Int :=
  if L.all (fun l => decide (l.length ≤ 80)) = false then 3 else if L.all (fun l => l.all textOk) = false then 1 else 0

set_option maxHeartbeats 1000000 in
theorem checkTexts_any (L : List (List Tx)) (n cap : Nat) (a : Option Addr) (w : World) (hL : L.length = n) (hn : n ≤ maxLen) (hS : Lists w a L) :
    Calls Tryz.prog 52 #[.slice a n cap] w fun e w' => e = .returned (.int .i64 (textsErr L)) ∧ Below w.heap.size w w' := by
  obtain ⟨z, hz⟩ : ∃ z, textsErr L = z := ⟨_, rfl⟩
  rw [hz]
  have HZ := hid hz
  clear hz
  obtain ⟨sa, sc, hE⟩ := hS.each
  have h3 := allList_any (fun i => decide ((L.getD i []).length ≤ 80)) sa (fun i => (L.getD i []).length) sc 69 #[] (enters_of Tryz.func69 (by kernel_rfl) rfl) n cap a w hn (fun i hi => by
    obtain ⟨b, off, h1, h2, -, -⟩ := hE i (by omega)
    exact ⟨b, off, h1, h2⟩) (fun i hi W hW => short80_any _ _ _ W)
  have h1 : ∀ W, Below w.heap.size w W → Calls Tryz.prog 68 #[.slice a n cap, .func (.func 70) #[] #[]] W fun e w' => e = .returned (.bool (L.all fun l => l.all textOk)) ∧ Below W.heap.size W w' := by
    intro W hW
    have h := allList_any (fun i => (L.getD i []).all textOk) sa (fun i => (L.getD i []).length) sc 70 #[] (enters_of Tryz.func70 (by kernel_rfl) rfl) n cap a W hn (fun i hi => by
      obtain ⟨b, off, h1, h2, -, -⟩ := hE i (by omega)
      exact ⟨b, off, h1, cell_grown hW h2⟩) (fun i hi W' hW' => by
      obtain ⟨b, off, h1, h2, h3, h4⟩ := hE i (by omega)
      exact textsOk_any _ _ _ _ W' rfl h3 ((h4.grown hW).grown hW'))
    rwa [← hL, allN_list L [] (fun l => l.all textOk), hL] at h
  rw [← hL, allN_list L [] (fun l => decide (l.length ≤ 80)), hL] at h3
  go_enter Tryz.func52, Tryz.ntmps52
  cases hx : L.all (fun l => decide (l.length ≤ 80))
  · have hz3 : z = 3 := by rw [← HZ.out, textsErr, hx]; rfl
    rw [hx] at h3
    clear hx h1
    go_wp2_with (go_at_call 68; refine h3.mono ?_; rintro e w' ⟨rfl, hb⟩)
    go_ret
    exact ⟨by rw [hz3]; rfl, hb⟩
  · have HZ2 : Hid ((if L.all (fun l => l.all textOk) = false then 1 else 0) = z) := hid (by rw [← HZ.out, textsErr, hx]; rfl)
    rw [hx] at h3
    clear hx
    go_wp2_with fail
    refine h3.mono ?_
    rintro e w' ⟨rfl, hb⟩
    have h1' := h1 w' hb
    clear h1 h3
    cases hx : L.all (fun l => l.all textOk)
    · have hz1 : z = 1 := by rw [← HZ2.out, hx]; rfl
      rw [hx] at h1'
      clear hx
      go_wp2_with (go_at_call 68; refine h1'.mono ?_; rintro e w2 ⟨rfl, hb2⟩)
      go_ret
      exact ⟨by rw [hz1]; rfl, below_then hb hb2⟩
    · have hz1 : z = 0 := by rw [← HZ2.out, hx]; rfl
      rw [hx] at h1'
      clear hx
      go_wp2_with (go_at_call 68; refine h1'.mono ?_; rintro e w2 ⟨rfl, hb2⟩)
      go_ret
      exact ⟨by rw [hz1]; rfl, below_then hb hb2⟩

set_option maxRecDepth 100000 in
set_option maxHeartbeats 1000000 in
theorem validLexicon_any (l : Lex) (a1 a2 a3 : Option Addr) (n1 n2 n3 c1 c2 c3 : Nat) (w : World) (h1 : l.nums.length = n1) (h2 : l.names.length = n2) (h3 : l.nots.length = n3) (hL : LexAt w a1 a2 a3 l) :
    Calls Tryz.prog 64 #[.agg #[.slice a1 n1 c1, .slice a2 n2 c2, .slice a3 n3 c3]] w fun e w' => e = .returned (.bool (lexOk l)) ∧ Below w.heap.size w w' := by
  obtain ⟨z, hz⟩ : ∃ z, lexOk l = z := ⟨_, rfl⟩
  rw [hz]
  have HZ := hid hz
  clear hz
  have q1 := hL.n1; have q2 := hL.n2; have q3 := hL.n3
  rw [h1] at q1; rw [h2] at q2; rw [h3] at q3
  obtain ⟨W1, hW1⟩ : ∃ W, W = w.alloc (.cells #[.slice a1 n1 c1, .slice a2 n2 c2, .slice a3 n3 c3] 34) := ⟨_, rfl⟩
  have hB1 : Below w.heap.size w W1 := by rw [hW1]; exact below_alloc w _
  have e0 : W1.cell? ⟨w.heap.size, 0, none⟩ = some (.slice a1 n1 c1) := by rw [hW1]; simp [go_sem]
  have e1 : W1.cell? ⟨w.heap.size, 1, none⟩ = some (.slice a2 n2 c2) := by rw [hW1]; simp [go_sem]
  have e2 : W1.cell? ⟨w.heap.size, 2, none⟩ = some (.slice a3 n3 c3) := by rw [hW1]; simp [go_sem]
  have hL1 := hL.grown hB1
  have HE : Hid (lexFew l = (decide (n1 ≤ 40) && (decide (n2 ≤ 40) && decide (n3 ≤ 40)))) := hid (by rw [lexFew, h1, h2, h3])
  have H1 := hid h1; have H2 := hid h2; have H3 := hid h3
  clear h1 h2 h3
  have hnn := allNums_any l.nums n1 c1 a1 W1 H1.out q1 hL1.nums
  have hnm : ∀ W, Below W1.heap.size W1 W → _ := fun W hW => allNames_any l.names n2 c2 a2 W H2.out q2 (hL1.grown hW).names
  have hnt : ∀ W, Below W1.heap.size W1 W → _ := fun W hW => allTexts_any l.nots n3 c3 a3 W H3.out q3 (hL1.grown hW).nots
  clear hL1 hL
  by_cases hfew : n1 ≤ 40 ∧ n2 ≤ 40 ∧ n3 ≤ 40
  · have HF : Hid (lexFew l = true) := hid (by rw [HE.out]; simp [hfew])
    have i1 : (n1 : Int) ≤ 40 := by omega
    have i2 : (n2 : Int) ≤ 40 := by omega
    have i3 : (n3 : Int) ≤ 40 := by omega
    clear hfew HE
    by_cases d1 : n1 < n2 <;> by_cases d2 : n2 < n3 <;> by_cases d3 : n1 < n3 <;> first | (exfalso; omega) | skip
    all_goals
      go_enter Tryz.func64, Tryz.ntmps64
      go_wp2_with fail
      rw [← hW1]
      clear hW1
      refine hnn.mono ?_
      rintro e w' ⟨rfl, hb⟩
      cases hx : l.nums.all numOk
      · have hzf : z = false := by rw [← HZ.out, lexOk, HF.out, hx]; rfl
        clear hx hnm hnt
        go_wp2
        go_ret
        exact ⟨by rw [hzf]; rfl, below_then hB1 hb⟩
      have HX := hid hx
      clear hx
      replace e1 := cell_grown hb e1
      replace e2 := cell_grown hb e2
      have gw := lt_of_cell e1
      go_wp2_with fail
      refine (hnm w' hb).mono ?_
      rintro e w2 ⟨rfl, hb2⟩
      cases hx : l.names.all nameOk
      · have hzf : z = false := by rw [← HZ.out, lexOk, HF.out, HX.out, hx]; rfl
        clear hx hnm hnt
        go_wp2
        go_ret
        exact ⟨by rw [hzf]; rfl, below_then (below_then hB1 hb) hb2⟩
      have hzf : l.nots.all textOk = z := by rw [← HZ.out, lexOk, HF.out, HX.out, hx]; rfl
      clear hx
      replace e2 := cell_grown hb2 e2
      have gw2 := lt_of_cell e2
      go_wp2_with fail
      refine (hnt w2 (below_then hb hb2)).mono ?_
      rintro e w3 ⟨rfl, hb3⟩
      rw [hzf]
      go_wp2
      go_ret
      exact ⟨rfl, below_then (below_then (below_then hB1 hb) hb2) hb3⟩
  · have hzf : z = false := by
      rw [← HZ.out, lexOk, HE.out]
      have : (decide (n1 ≤ 40) && (decide (n2 ≤ 40) && decide (n3 ≤ 40))) = false := by
        rw [← Bool.not_eq_true]
        simpa using hfew
      rw [this]; rfl
    clear hnn hnm hnt
    by_cases d1 : n1 < n2 <;> by_cases d2 : n2 < n3 <;> by_cases d3 : n1 < n3 <;> first | (exfalso; omega) | skip
    all_goals
      have i1 : ¬ (n1 : Int) ≤ 40 ∨ ¬ (n2 : Int) ≤ 40 ∨ ¬ (n3 : Int) ≤ 40 := by omega
      first
        | (have i3 : ¬ (n3 : Int) ≤ 40 := by omega
           clear i1 hfew
           go_enter Tryz.func64, Tryz.ntmps64
           go_wp2
           go_ret
           exact ⟨by first | rfl | (rw [hzf]; rfl), by rw [← hW1]; exact hB1⟩)
        | (have i3 : ¬ (n2 : Int) ≤ 40 := by omega
           clear i1 hfew
           go_enter Tryz.func64, Tryz.ntmps64
           go_wp2
           go_ret
           exact ⟨by first | rfl | (rw [hzf]; rfl), by rw [← hW1]; exact hB1⟩)
        | (have i3 : ¬ (n1 : Int) ≤ 40 := by omega
           clear i1 hfew
           go_enter Tryz.func64, Tryz.ntmps64
           go_wp2
           go_ret
           exact ⟨by first | rfl | (rw [hzf]; rfl), by rw [← hW1]; exact hB1⟩)

/-- Is a report as it has to be? -/
def reportOk (R : List (Tx × Int)) (out win : Int) : Bool := decide (R.length ≤ 80) && (R.all saidOk && (inB out 0 100000 && inB win 0 100000))

set_option maxRecDepth 100000 in
set_option maxHeartbeats 1000000 in
theorem validReport_any (R : List (Tx × Int)) (out win : Int) (n cap : Nat) (a : Option Addr) (w : World) (hR : R.length = n) (hn : n ≤ maxLen) (hS : Nums w a R) :
    Calls Tryz.prog 59 #[.agg #[.slice a n cap, .int .i64 out, .int .i64 win]] w fun e w' => e = .returned (.bool (reportOk R out win)) ∧ Below w.heap.size w w' := by
  obtain ⟨z, hz⟩ : ∃ z, reportOk R out win = z := ⟨_, rfl⟩
  rw [hz]
  have HZ : Hid ((decide (n ≤ 80) && (R.all saidOk && (inB out 0 100000 && inB win 0 100000))) = z) := hid (by rw [← hz, reportOk, hR])
  clear hz
  obtain ⟨W1, hW1⟩ : ∃ W, W = w.alloc (.cells #[.slice a n cap, .int .i64 out, .int .i64 win] 62) := ⟨_, rfl⟩
  have hB1 : Below w.heap.size w W1 := by rw [hW1]; exact below_alloc w _
  have e1 : W1.cell? ⟨w.heap.size, 1, none⟩ = some (.int .i64 out) := by rw [hW1]; simp [go_sem]
  have e2 : W1.cell? ⟨w.heap.size, 2, none⟩ = some (.int .i64 win) := by rw [hW1]; simp [go_sem]
  have hcall := allSaids_any R n cap a W1 hR hn (hS.grown hB1)
  clear hR hS
  go_enter Tryz.func59, Tryz.ntmps59
  by_cases h80 : n ≤ 80
  · have h80' : (n : Int) ≤ 80 := by omega
    have HZ2 : Hid ((R.all saidOk && (inB out 0 100000 && inB win 0 100000)) = z) := hid (by rw [← HZ.out]; simp [h80])
    clear h80 HZ
    go_wp2_with fail
    rw [← hW1]
    clear hW1
    refine hcall.mono ?_
    rintro e w' ⟨rfl, hb⟩
    have hB2 := below_then hB1 hb
    cases hx : R.all saidOk
    · have hzf : z = false := by rw [← HZ2.out, hx]; rfl
      clear hx
      go_wp2
      go_ret
      exact ⟨by first | rfl | (rw [hzf]; rfl), hB2⟩
    have HX := hid hx
    clear hx
    replace e1 := cell_grown hb e1
    replace e2 := cell_grown hb e2
    have gw := lt_of_cell e1
    go_wp2_with fail
    refine (within_any out 0 100000 w').mono ?_
    rintro e w2 ⟨rfl, rfl⟩
    cases hx : inB out 0 100000
    · have hzf : z = false := by rw [← HZ2.out, HX.out, hx]; rfl
      clear hx
      go_wp2
      go_ret
      exact ⟨by first | rfl | (rw [hzf]; rfl), hB2⟩
    have hzf : inB win 0 100000 = z := by rw [← HZ2.out, HX.out, hx]; rfl
    clear hx
    go_wp2_with fail
    refine (within_any win 0 100000 w').mono ?_
    rintro e w2 ⟨rfl, rfl⟩
    rw [hzf]
    go_wp2
    go_ret
    exact ⟨rfl, hB2⟩
  · have h80' : ¬ (n : Int) ≤ 80 := by omega
    have hzf : z = false := by rw [← HZ.out]; simp [h80]
    go_wp2
    go_ret
    exact ⟨by first | rfl | (rw [hzf]; rfl), by rw [← hW1]; exact hB1⟩

/-- The error of a report. -/
def reportErr (R : List (Tx × Int)) (out win : Int) : Int := if reportOk R out win then 0 else 1

set_option maxHeartbeats 400000 in
theorem checkReport_any (R : List (Tx × Int)) (out win : Int) (n cap : Nat) (a : Option Addr) (w : World) (hR : R.length = n) (hn : n ≤ maxLen) (hS : Nums w a R) :
    Calls Tryz.prog 31 #[.agg #[.slice a n cap, .int .i64 out, .int .i64 win]] w fun e w' => e = .returned (.int .i64 (reportErr R out win)) ∧ Below w.heap.size w w' := by
  have hcall := fun W (hW : Below w.heap.size w W) => validReport_any R out win n cap a W hR hn (hS.grown hW)
  have hB := below_alloc w (.cells #[.slice a n cap, .int .i64 out, .int .i64 win] 62)
  unfold reportErr
  cases hx : reportOk R out win
  · rw [hx] at hcall
    clear hx
    go_enter Tryz.func31, Tryz.ntmps31
    go_wp2_with fail
    refine (hcall _ (by first | exact Below.refl _ _ | exact hB)).mono ?_
    rintro e w' ⟨rfl, hb⟩
    go_wp2
    go_ret
    exact ⟨rfl, by first | exact hb | exact below_then hB hb⟩
  · rw [hx] at hcall
    clear hx
    go_enter Tryz.func31, Tryz.ntmps31
    go_wp2_with fail
    refine (hcall _ (by first | exact Below.refl _ _ | exact hB)).mono ?_
    rintro e w' ⟨rfl, hb⟩
    go_wp2
    go_ret
    exact ⟨rfl, by first | exact hb | exact below_then hB hb⟩

end Go.Proofs.YtbampfkmgjfofaaGreatDoor
