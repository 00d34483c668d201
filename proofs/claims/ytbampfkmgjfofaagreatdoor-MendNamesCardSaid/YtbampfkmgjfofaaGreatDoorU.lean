/- Mend: an insertion sort keeps the order of equals: it is one by a total order, if the places tell equals apart. No memory is spoken of. The contracts of Go's own library that are leaned on, laid at this translation: the numbers, and that each body is the one spoken of. Mend: requests in memory, and in which order two of them are taken: the closures that compare. Mend: the stable sort of at most twenty requests. -/
import Derived.Sort.LotA
import Derived.Sort.WalkA
import Derived.Shelf.SlSortCmp.WholeK
import Derived.Shelf.SlicesG.Cmp
import Derived.Ground.SlsfProg
import Derived.Ground.SlgcProg
import Derived.Test.YtbampfkmgjfofaaGreatDoorRows
import Derived.Test.YtbampfkmgjfofaaGreatDoorL
namespace Go.Proofs.YtbampfkmgjfofaaGreatDoor
open Go.Sort

variable {α : Type} [Inhabited α]

/-- The order by lt, and of equals by the number. -/
def ltI (lt : α → α → Bool) (idx : α → Nat) (x y : α) : Bool := lt x y || (!lt y x && decide (idx x < idx y))

omit [Inhabited α] in
theorem ltI_swo {lt : α → α → Bool} (h : SWO lt) (idx : α → Nat) : SWO (ltI lt idx) where
  irrefl x := by simp [ltI, h.irrefl]
  trans x y z hxy hyz := by
    simp only [ltI, Bool.or_eq_true, Bool.and_eq_true, Bool.not_eq_true', decide_eq_true_eq] at *
    rcases hxy with hxy | ⟨hyx, hi⟩
    · rcases hyz with hyz | ⟨hzy, hk⟩
      · exact .inl (h.trans _ _ _ hxy hyz)
      · left
        cases hxz : lt x z with
        | true => rfl
        | false =>
          have := h.ntrans _ _ _ hxz hzy
          rw [hxy] at this; cases this
    · rcases hyz with hyz | ⟨hzy, hk⟩
      · left
        cases hxz : lt x z with
        | true => rfl
        | false =>
          have := h.ntrans _ _ _ hyx hxz
          rw [hyz] at this; cases this
      · right
        exact ⟨h.ntrans _ _ _ hzy hyx, by omega⟩
  ntrans x y z hxy hyz := by
    have key : ∀ a b, ltI lt idx a b = false ↔ lt a b = false ∧ (lt b a = true ∨ idx b ≤ idx a) := by
      intro a b
      simp only [ltI, Bool.or_eq_false_iff, Bool.and_eq_false_iff, Bool.not_eq_false', decide_eq_false_iff_not, Nat.not_lt]
    rw [key] at *
    obtain ⟨h1, h2⟩ := hxy
    obtain ⟨h3, h4⟩ := hyz
    refine ⟨h.ntrans _ _ _ h1 h3, ?_⟩
    cases hzx : lt z x with
    | true => exact .inl rfl
    | false =>
      right
      have hyx : lt y x = false := by
        cases hyx : lt y x with
        | false => rfl
        | true =>
          have := h.ntrans _ _ _ h3 hzx
          rw [hyx] at this; cases this
      have hzy : lt z y = false := h.ntrans _ _ _ hzx h1
      rw [hyx] at h2
      rw [hzy] at h4
      rcases h2 with h2 | h2
      · cases h2
      · rcases h4 with h4 | h4
        · cases h4
        · omega

theorem insInner_same {l1 l2 : α → α → Bool} (a : Nat) : ∀ (j : Nat) (d : Array α), j < d.size → (∀ p, p < j → l1 d[j]! d[p]! = l2 d[j]! d[p]!) → insInner l1 a j d = insInner l2 a j d
  | 0, d, _, _ => by rw [insInner, insInner]
  | j + 1, d, hj, h => by
    rw [insInner, insInner, h j (by omega)]
    split
    · apply insInner_same a j _ (by rw [swp_size]; omega)
      intro p hp
      have g := swp_get d hj (show j < d.size by omega)
      rw [g, g]
      simp only [if_true, show p ≠ j by omega, show p ≠ j + 1 by omega, if_false]
      exact h p (by omega)
    · rfl

theorem insOuter_same {lt : α → α → Bool} (hS : SWO lt) (idx : α → Nat) (b : Nat) : ∀ (n i : Nat) (d : Array α), b - i = n → 0 < i → i ≤ b → b ≤ d.size →
    SortedIn (ltI lt idx) 0 i d → (∀ j, i ≤ j → j < b → ∀ p, p < j → idx d[p]! < idx d[j]!) → insOuter lt 0 b i d = insOuter (ltI lt idx) 0 b i d
  | 0, i, d, hn, _, hib, _, _, _ => by rw [Go.Proofs.insOuter_stop (lt := lt) (h := by omega), Go.Proofs.insOuter_stop (lt := ltI lt idx) (h := by omega)]
  | n + 1, i, d, hn, hi, hib, hb, hs, hx => by
    have hlt : i < b := by omega
    have hL := ltI_swo hS idx
    rw [Go.Proofs.insOuter_go (lt := lt) (h := hlt), Go.Proofs.insOuter_go (lt := ltI lt idx) (h := hlt)]
    have e : insInner lt 0 i d = insInner (ltI lt idx) 0 i d := insInner_same 0 i d (by omega) (fun p hp => by
      have := hx i (Nat.le_refl _) hlt p hp
      simp [ltI, show ¬ idx d[i]! < idx d[p]! by omega])
    rw [e]
    have h1 := insInner_spec hL swp_permIn permIn_refl permIn_trans 0 b i hlt i d (by omega) (Nat.le_refl _) hb ⟨fun p q hap hpq hqi _ hq => hs p q hap hpq (by omega), fun q h1 h2 => by omega⟩
    have h2 := insInner_spec hL swp_permIn permIn_refl permIn_trans 0 (i + 1) i (by omega) i d (by omega) (Nat.le_refl _) (by omega) ⟨fun p q hap hpq hqi _ hq => hs p q hap hpq (by omega), fun q h1 h2 => by omega⟩
    apply insOuter_same hS idx b n (i + 1) _ (by omega) (by omega) (by omega) (by rw [h1.1.1]; exact hb) h1.2
    intro j hj hjb p hp
    have ej : (insInner (ltI lt idx) 0 i d)[j]! = d[j]! := h2.1.2.1 j (.inr hj)
    rw [ej]
    by_cases hpi : p < i + 1
    · exact permIn_all d _ 0 (i + 1) (fun x => idx x < idx d[j]!) (by omega) h2.1 (fun q _ hq => hx j (by omega) hjb q (by omega)) p (Nat.zero_le _) hpi
    · have ep : (insInner (ltI lt idx) 0 i d)[p]! = d[p]! := h2.1.2.1 p (.inr (by omega))
      rw [ep]
      exact hx j (by omega) hjb p hp

/-- Where the numbers rise, the insertion sort is one by the order in which the numbers tell equals apart: what comes out is a permutation, sorted so. -/
theorem ins_stable {lt : α → α → Bool} (hS : SWO lt) (idx : α → Nat) (d : Array α) (hx : ∀ i j, i < j → j < d.size → idx d[i]! < idx d[j]!) :
    PermIn 0 d.size d (insertionSort lt d 0 d.size) ∧ SortedIn (ltI lt idx) 0 d.size (insertionSort lt d 0 d.size) := by
  have hL := ltI_swo hS idx
  have e : insertionSort lt d 0 d.size = insertionSort (ltI lt idx) d 0 d.size := by
    unfold insertionSort
    by_cases h : 0 + 1 ≤ d.size
    · exact insOuter_same hS idx d.size _ _ d rfl (by omega) h (Nat.le_refl _) (fun p q _ _ _ => by omega) (fun j _ hj p hp => hx p j hp hj)
    · rw [Go.Proofs.insOuter_stop (lt := lt) (h := by omega), Go.Proofs.insOuter_stop (lt := ltI lt idx) (h := by omega)]
  rw [e]
  exact insertionSort_holds hL d 0 d.size (Nat.zero_le _) (Nat.le_refl _)

end Go.Proofs.YtbampfkmgjfofaaGreatDoor

namespace Go.Proofs.YtbampfkmgjfofaaGreatDoor
open Go.Shelf
def insL_ren : Go.Shelf.Ren := ⟨fun | 20 => 158 | n => n, fun | 24 => 162 | 22 => 128 | 3 => 3 | 25 => 163 | 4 => 4 | 0 => 0 | n => n, fun | n => n⟩
theorem insL : Go.Proofs.SlLaysF0.n20 Tryz.prog insL_ren := {
  mixed := by kernel_rfl
  f20 := ⟨Tryz.f158.name, by decide, Tryz.func158.trans (congrArg some (by kernel_rfl))⟩
  t0 := Tryz.underlying0
  a0 := Tryz.isAgg0
  z0 := Tryz.sizeOf0
  v0 := Tryz.zeroValue0
  t3 := Tryz.underlying3
  a3 := Tryz.isAgg3
  z3 := Tryz.sizeOf3
  v3 := Tryz.zeroValue3
  t4 := Tryz.underlying4
  a4 := Tryz.isAgg4
  z4 := Tryz.sizeOf4
  v4 := Tryz.zeroValue4
  t22 := Tryz.underlying128
  a22 := Tryz.isAgg128
  z22 := Tryz.sizeOf128
  v22 := Tryz.zeroValue128
  t25 := Tryz.underlying163
  a25 := Tryz.isAgg163
  z25 := Tryz.sizeOf163
  v25 := Tryz.zeroValue163 }
def cmpL_ren : Go.Shelf.Ren := ⟨fun | 5 => 119 | 7 => 143 | n => n, fun | 22 => 3 | 3 => 3 | 4 => 4 | n => n, fun | n => n⟩
theorem cmpL : Go.Proofs.SlLaysC2.n5 Tryz.prog cmpL_ren := {
  mixed := by kernel_rfl
  f5 := ⟨Tryz.f119.name, by decide, Tryz.func119.trans (congrArg some (by kernel_rfl))⟩
  f7 := ⟨Tryz.f143.name, by decide, Tryz.func143.trans (congrArg some (by kernel_rfl))⟩
  t3 := Tryz.underlying3
  a3 := Tryz.isAgg3
  z3 := Tryz.sizeOf3
  v3 := Tryz.zeroValue3
  t4 := Tryz.underlying4
  a4 := Tryz.isAgg4
  z4 := Tryz.sizeOf4
  v4 := Tryz.zeroValue4
  t22 := Tryz.underlying3
  a22 := Tryz.isAgg3
  z22 := Tryz.sizeOf3
  v22 := Tryz.zeroValue3 }
def sortL_ren : Go.Shelf.Ren := ⟨fun | 6 => 123 | 15 => 147 | 14 => 146 | 28 => 167 | 29 => 168 | 20 => 158 | 21 => 160 | 22 => 161 | 23 => 162 | 24 => 163 | 25 => 164 | 26 => 165 | 27 => 166 | 46 => 177 | 47 => 178 | 48 => 179 | 49 => 180 | 50 => 181 | 57 => 189 | n => n, fun | 22 => 128 | 24 => 162 | 25 => 163 | 3 => 3 | 39 => 203 | 0 => 0 | 53 => 224 | 55 => 226 | 4 => 4 | 46 => 217 | 45 => 216 | 50 => 221 | 5 => 5 | 9 => 9 | 66 => 237 | 70 => 241 | 76 => 252 | 77 => 253 | n => n, fun | n => n⟩
theorem sortL : Go.Proofs.SlLaysF0.n6 Tryz.prog sortL_ren := {
  mixed := by kernel_rfl
  f6 := ⟨Tryz.f123.name, by decide, Tryz.func123.trans (congrArg some (by kernel_rfl))⟩
  f14 := ⟨Tryz.f146.name, by decide, Tryz.func146.trans (congrArg some (by kernel_rfl))⟩
  f15 := Tryz.func147.trans (congrArg some (by kernel_rfl))
  f20 := ⟨Tryz.f158.name, by decide, Tryz.func158.trans (congrArg some (by kernel_rfl))⟩
  f21 := ⟨Tryz.f160.name, by decide, Tryz.func160.trans (congrArg some (by kernel_rfl))⟩
  f22 := ⟨Tryz.f161.name, by decide, Tryz.func161.trans (congrArg some (by kernel_rfl))⟩
  f23 := ⟨Tryz.f162.name, by decide, Tryz.func162.trans (congrArg some (by kernel_rfl))⟩
  f24 := ⟨Tryz.f163.name, by decide, Tryz.func163.trans (congrArg some (by kernel_rfl))⟩
  f25 := ⟨Tryz.f164.name, by decide, Tryz.func164.trans (congrArg some (by kernel_rfl))⟩
  f26 := ⟨Tryz.f165.name, by decide, Tryz.func165.trans (congrArg some (by kernel_rfl))⟩
  f27 := ⟨Tryz.f166.name, by decide, Tryz.func166.trans (congrArg some (by kernel_rfl))⟩
  f28 := Tryz.func167.trans (congrArg some (by kernel_rfl))
  f29 := Tryz.func168.trans (congrArg some (by kernel_rfl))
  f46 := ⟨Tryz.f177.name, by decide, Tryz.func177.trans (congrArg some (by kernel_rfl))⟩
  f47 := Tryz.func178.trans (congrArg some (by kernel_rfl))
  f48 := Tryz.func179.trans (congrArg some (by kernel_rfl))
  f49 := ⟨Tryz.f180.name, by decide, Tryz.func180.trans (congrArg some (by kernel_rfl))⟩
  f50 := ⟨Tryz.f181.name, by decide, Tryz.func181.trans (congrArg some (by kernel_rfl))⟩
  f57 := ⟨Tryz.f189.name, by decide, Tryz.func189.trans (congrArg some (by kernel_rfl))⟩
  t0 := Tryz.underlying0
  a0 := Tryz.isAgg0
  z0 := Tryz.sizeOf0
  v0 := Tryz.zeroValue0
  t3 := Tryz.underlying3
  a3 := Tryz.isAgg3
  z3 := Tryz.sizeOf3
  v3 := Tryz.zeroValue3
  t4 := Tryz.underlying4
  a4 := Tryz.isAgg4
  z4 := Tryz.sizeOf4
  v4 := Tryz.zeroValue4
  t5 := Tryz.underlying5
  a5 := Tryz.isAgg5
  z5 := Tryz.sizeOf5
  v5 := Tryz.zeroValue5
  t9 := Tryz.underlying9
  a9 := Tryz.isAgg9
  z9 := Tryz.sizeOf9
  v9 := Tryz.zeroValue9
  t22 := Tryz.underlying128
  a22 := Tryz.isAgg128
  z22 := Tryz.sizeOf128
  v22 := Tryz.zeroValue128
  t25 := Tryz.underlying163
  a25 := Tryz.isAgg163
  z25 := Tryz.sizeOf163
  v25 := Tryz.zeroValue163
  t39 := Tryz.underlying203
  a39 := Tryz.isAgg203
  z39 := Tryz.sizeOf203
  v39 := Tryz.zeroValue203
  t45 := Tryz.underlying216
  a45 := Tryz.isAgg216
  z45 := Tryz.sizeOf216
  v45 := Tryz.zeroValue216
  t46 := Tryz.underlying217
  a46 := Tryz.isAgg217
  z46 := Tryz.sizeOf217
  v46 := Tryz.zeroValue217
  t50 := Tryz.underlying221
  a50 := Tryz.isAgg221
  z50 := Tryz.sizeOf221
  v50 := Tryz.zeroValue221
  t53 := Tryz.underlying224
  a53 := Tryz.isAgg224
  z53 := Tryz.sizeOf224
  v53 := Tryz.zeroValue224
  t55 := Tryz.underlying226
  a55 := Tryz.isAgg226
  z55 := Tryz.sizeOf226
  v55 := Tryz.zeroValue226
  t66 := Tryz.underlying237
  a66 := Tryz.isAgg237
  z66 := Tryz.sizeOf237
  v66 := Tryz.zeroValue237
  t70 := Tryz.underlying241
  a70 := Tryz.isAgg241
  z70 := Tryz.sizeOf241
  v70 := Tryz.zeroValue241
  t76 := Tryz.underlying252
  a76 := Tryz.isAgg252
  z76 := Tryz.sizeOf252
  v76 := Tryz.zeroValue252
  t77 := Tryz.underlying253
  a77 := Tryz.isAgg253
  z77 := Tryz.sizeOf253
  v77 := Tryz.zeroValue253 }
end Go.Proofs.YtbampfkmgjfofaaGreatDoor

namespace Go.Proofs.YtbampfkmgjfofaaGreatDoor
open Go.RowKit

/-- A request with its number, as it lies in memory. -/
structure Ask where
  b : Int
  m : Int
  f : Int
  c : Int
  pa : Option Addr
  pn : Nat
  pc : Nat
  i : Nat

instance : Inhabited Ask := ⟨⟨0, 0, 0, 0, none, 0, 0, 0⟩⟩

/-- Its cells. -/
def askC (x : Ask) : List Value := [.int .i64 x.b, .int .i64 x.m, .int .i64 x.f, .int .i64 x.c, .slice x.pa x.pn x.pc, .int .i64 (x.i : Int)]

/-- The same, as one value. -/
def askV (x : Ask) : Value := .agg #[.int .i64 x.b, .int .i64 x.m, .int .i64 x.f, .int .i64 x.c, .slice x.pa x.pn x.pc, .int .i64 (x.i : Int)]

/-- Which one is taken sooner: by the minute, then by the member. -/
def cmpA (x y : Ask) : Int := if Go.Lib.compareInt x.m y.m = 0 then Go.Lib.compareInt x.b y.b else Go.Lib.compareInt x.m y.m

theorem ltOf_cmpA (x y : Ask) : ltOf cmpA x y = decide (x.m < y.m ∨ x.m = y.m ∧ x.b < y.b) := by
  rw [Bool.eq_iff_iff, decide_eq_true_eq]
  unfold ltOf cmpA Go.Lib.compareInt
  rw [decide_eq_true_eq]
  repeat' split
  all_goals omega

theorem cmpA_swo : Go.Sort.SWO (ltOf cmpA) := by
  constructor
  · intro x
    rw [ltOf_cmpA, decide_eq_false_iff_not]
    omega
  · intro x y z
    rw [ltOf_cmpA, ltOf_cmpA, ltOf_cmpA, decide_eq_true_eq, decide_eq_true_eq, decide_eq_true_eq]
    omega
  · intro x y z
    rw [ltOf_cmpA, ltOf_cmpA, ltOf_cmpA, decide_eq_false_iff_not, decide_eq_false_iff_not, decide_eq_false_iff_not]
    omega

set_option maxHeartbeats 1000000 in
theorem byMinute_any (x y : Ask) (W : World) : Calls Tryz.prog 118 #[askV x, askV y] W fun e w' => e = .returned (.int .i64 (Go.Lib.compareInt x.m y.m)) ∧ ∃ q os', w' = Go.Sort.grow (W.drewN q) os' := by
  have hcon := fun W' => AnyG.cmp_Compare_int cmpL x.m y.m W'
  change ∀ W', Calls Tryz.prog 119 _ _ _ at hcon
  generalize Go.Lib.compareInt x.m y.m = r at hcon ⊢
  unfold askV
  go_enter Tryz.func118, Tryz.ntmps118
  go_wp2_with (go_at_call 119; refine (hcon _).mono ?_; rintro e w' ⟨rfl, rfl⟩)
  go_ret
  exact ⟨rfl, 0, _, by rw [Go.Sort.alloc_eq_grow, Go.Sort.alloc_eq_grow, Go.Sort.grow_grow]; rfl⟩

set_option maxHeartbeats 1000000 in
theorem byMember_any (x y : Ask) (W : World) : Calls Tryz.prog 120 #[askV x, askV y] W fun e w' => e = .returned (.int .i64 (Go.Lib.compareInt x.b y.b)) ∧ ∃ q os', w' = Go.Sort.grow (W.drewN q) os' := by
  have hcon := fun W' => AnyG.cmp_Compare_int cmpL x.b y.b W'
  change ∀ W', Calls Tryz.prog 119 _ _ _ at hcon
  generalize Go.Lib.compareInt x.b y.b = r at hcon ⊢
  unfold askV
  go_enter Tryz.func120, Tryz.ntmps120
  go_wp2_with (go_at_call 119; refine (hcon _).mono ?_; rintro e w' ⟨rfl, rfl⟩)
  go_ret
  exact ⟨rfl, 0, _, by rw [Go.Sort.alloc_eq_grow, Go.Sort.alloc_eq_grow, Go.Sort.grow_grow]; rfl⟩

/-- A world that has grown, by draws and blocks. -/
def Grew (W W' : World) : Prop := ∃ q os', W' = Go.Sort.grow (W.drewN q) os'

theorem Grew.refl (W : World) : Grew W W := ⟨0, #[], by rw [Go.Sort.grow_empty]; rfl⟩
theorem Grew.trans {A B C : World} (h : Grew A B) (k : Grew B C) : Grew A C := by
  obtain ⟨q, os, rfl⟩ := h
  obtain ⟨r, ps, rfl⟩ := k
  exact ⟨q + r, os ++ ps, by
    rw [show (Go.Sort.grow (A.drewN q) os).drewN r = Go.Sort.grow ((A.drewN q).drewN r) os from rfl, Go.Sort.grow_grow]
    show Go.Sort.grow ((A.drewN q).drewN r) _ = _
    congr 1
    unfold World.drewN
    simp [Nat.add_assoc]⟩
theorem Grew.alloc {A B : World} (h : Grew A B) (o : Obj) : Grew A (B.alloc o) := h.trans ⟨0, #[o], by rw [Go.Sort.alloc_eq_grow]; rfl⟩
theorem Grew.below {A B : World} (h : Grew A B) : Below A.heap.size A B := by
  obtain ⟨q, os, rfl⟩ := h
  exact ⟨rfl, rfl, rfl, by rw [Go.Sort.size_grow]; exact Nat.le_add_right _ _, fun k hk => Go.Sort.heap_grow_old _ _ hk⟩

set_option maxHeartbeats 1000000 in
theorem rule_any (g1 g2 : Value) (x y : Ask) (r1 r2 : Int) (cb db : Nat) (W : World)
    (h1 : ∃ f, g1 = .func (.func f) #[] #[] ∧ (∀ args w, (callFunc f args).run Tryz.prog w = .ok (.enter f args) w) ∧ ∀ W', Calls Tryz.prog f #[askV x, askV y] W' fun e w' => e = .returned (.int .i64 r1) ∧ Grew W' w')
    (h2 : ∃ f, g2 = .func (.func f) #[] #[] ∧ (∀ args w, (callFunc f args).run Tryz.prog w = .ok (.enter f args) w) ∧ ∀ W', Calls Tryz.prog f #[askV x, askV y] W' fun e w' => e = .returned (.int .i64 r2) ∧ Grew W' w')
    (hb : W.cell? ⟨cb, 0, none⟩ = some (.slice (some ⟨db, 0, none⟩) 2 2)) (hd0 : W.cell? ⟨db, 0, none⟩ = some g1) (hd1 : W.cell? ⟨db, 1, none⟩ = some g2) :
    Calls Tryz.prog 125 #[askV x, askV y, .pointer (some ⟨cb, 0, none⟩)] W fun e w' => e = .returned (.int .i64 (if r1 = 0 then r2 else r1)) ∧ Grew W w' := by
  obtain ⟨rr, hrr⟩ : ∃ r, r = if r1 = 0 then r2 else r1 := ⟨_, rfl⟩
  rw [← hrr]
  have HR := hid hrr
  clear hrr
  obtain ⟨f1, rfl, e1, k1⟩ := h1
  obtain ⟨f2, rfl, e2, k2⟩ := h2
  have lb := lt_of_cell hb
  have ld := lt_of_cell hd0
  unfold askV at *
  obtain ⟨W0, hW0⟩ : ∃ W0, W0 = (W.alloc (.cells #[.int .i64 x.b, .int .i64 x.m, .int .i64 x.f, .int .i64 x.c, .slice x.pa x.pn x.pc, .int .i64 (x.i : Int)] 162)).alloc (.cells #[.int .i64 y.b, .int .i64 y.m, .int .i64 y.f, .int .i64 y.c, .slice y.pa y.pn y.pc, .int .i64 (y.i : Int)] 162) := ⟨_, rfl⟩
  have hG0 : Grew W W0 := by rw [hW0]; exact ((Grew.refl W).alloc _).alloc _
  have z0 : W0.heap.size = W.heap.size + 2 := by rw [hW0]; simp
  have x0 : W0.cell? ⟨W.heap.size, 0, none⟩ = some (.int .i64 x.b) := by rw [hW0]; simp [go_sem]
  have x1 : W0.cell? ⟨W.heap.size, 1, none⟩ = some (.int .i64 x.m) := by rw [hW0]; simp [go_sem]
  have x2 : W0.cell? ⟨W.heap.size, 2, none⟩ = some (.int .i64 x.f) := by rw [hW0]; simp [go_sem]
  have x3 : W0.cell? ⟨W.heap.size, 3, none⟩ = some (.int .i64 x.c) := by rw [hW0]; simp [go_sem]
  have x4 : W0.cell? ⟨W.heap.size, 4, none⟩ = some (.slice x.pa x.pn x.pc) := by rw [hW0]; simp [go_sem]
  have x5 : W0.cell? ⟨W.heap.size, 5, none⟩ = some (.int .i64 (x.i : Int)) := by rw [hW0]; simp [go_sem]
  have y0 : W0.cell? ⟨W.heap.size + 1, 0, none⟩ = some (.int .i64 y.b) := by rw [hW0]; simp [go_sem]
  have y1 : W0.cell? ⟨W.heap.size + 1, 1, none⟩ = some (.int .i64 y.m) := by rw [hW0]; simp [go_sem]
  have y2 : W0.cell? ⟨W.heap.size + 1, 2, none⟩ = some (.int .i64 y.f) := by rw [hW0]; simp [go_sem]
  have y3 : W0.cell? ⟨W.heap.size + 1, 3, none⟩ = some (.int .i64 y.c) := by rw [hW0]; simp [go_sem]
  have y4 : W0.cell? ⟨W.heap.size + 1, 4, none⟩ = some (.slice y.pa y.pn y.pc) := by rw [hW0]; simp [go_sem]
  have y5 : W0.cell? ⟨W.heap.size + 1, 5, none⟩ = some (.int .i64 (y.i : Int)) := by rw [hW0]; simp [go_sem]
  replace hb := cell_grown hG0.below hb
  replace hd0 := cell_grown hG0.below hd0
  replace hd1 := cell_grown hG0.below hd1
  replace lb := lt_of_cell hb
  replace ld := lt_of_cell hd0
  have hbr := hb
  rw [hW0] at hbr
  go_enter Tryz.func125, Tryz.ntmps125
  go_wp2_with fail
  clear hbr
  rw [← hW0]
  clear hW0
  go_loopw [11] (fun i wr => ∃ k : Nat, k ≤ 2 ∧ i = .int .i64 k ∧ Grew W0 wr ∧ (0 < k → r1 = 0) ∧ (1 < k → r2 = 0)) (fun i _ => 2 - (intOf i).toNat)
  case atStart => exact ⟨0, by omega, rfl, Grew.refl _, fun h => by omega, fun h => by omega⟩
  case round =>
    obtain ⟨k, hk, rfl, hG, R1, R2⟩ := hrel
    have hB := hG.below
    have p0 := cell_grown hB x0; have p1 := cell_grown hB x1; have p2 := cell_grown hB x2; have p3 := cell_grown hB x3; have p4 := cell_grown hB x4; have p5 := cell_grown hB x5
    have q0 := cell_grown hB y0; have q1 := cell_grown hB y1; have q2 := cell_grown hB y2; have q3 := cell_grown hB y3; have q4 := cell_grown hB y4; have q5 := cell_grown hB y5
    have d0 := cell_grown hB hd0; have d1 := cell_grown hB hd1
    have pl := lt_of_cell p0; have ql := lt_of_cell q0; have dl := lt_of_cell d0
    rcases (by omega : k = 0 ∨ k = 1 ∨ k = 2) with rfl | rfl | rfl
    · clear R1 R2 hd0 hd1 x0 x1 x2 x3 x4 x5 y0 y1 y2 y3 y4 y5 hb
      by_cases h0 : r1 = 0
      · have R := hid h0
        have hf : (r1 != 0) = false := by simpa using h0
        clear h0
        go_wp2_with (go_at_fn f1; refine (k1 _).mono ?_; rintro e w' ⟨rfl, hg'⟩)
        go_roundw
        case rel => exact ⟨1, by omega, rfl, hG.trans hg', fun _ => R.out, fun h => by omega⟩
        case measure => simp [intOf]
      · have R := hid h0
        have hf : (r1 != 0) = true := by simpa using h0
        clear h0
        go_wp2_with (go_at_fn f1; refine (k1 _).mono ?_; rintro e w' ⟨rfl, hg'⟩)
        go_ret
        exact ⟨by rw [HR.out, if_neg R.out]; rfl, (hG0.trans hG).trans hg'⟩
    · have HR1 := hid (R1 (by omega))
      clear R1 R2 hd0 hd1 x0 x1 x2 x3 x4 x5 y0 y1 y2 y3 y4 y5 hb
      by_cases h0 : r2 = 0
      · have R := hid h0
        have hf : (r2 != 0) = false := by simpa using h0
        clear h0
        go_wp2_with (go_at_fn f2; refine (k2 _).mono ?_; rintro e w' ⟨rfl, hg'⟩)
        go_roundw
        case rel => exact ⟨2, by omega, rfl, hG.trans hg', fun _ => HR1.out, fun _ => R.out⟩
        case measure => simp [intOf]
      · have R := hid h0
        have hf : (r2 != 0) = true := by simpa using h0
        clear h0
        go_wp2_with (go_at_fn f2; refine (k2 _).mono ?_; rintro e w' ⟨rfl, hg'⟩)
        go_ret
        exact ⟨by rw [HR.out, if_pos HR1.out]; rfl, (hG0.trans hG).trans hg'⟩
    · have HR1 := hid (R1 (by omega))
      have HR2 := hid (R2 (by omega))
      clear R1 R2 hd0 hd1 x0 x1 x2 x3 x4 x5 y0 y1 y2 y3 y4 y5 hb
      go_wp2
      go_ret
      exact ⟨by rw [HR.out, if_pos HR1.out, HR2.out]; rfl, hG0.trans hG⟩

end Go.Proofs.YtbampfkmgjfofaaGreatDoor

namespace Go.Proofs.YtbampfkmgjfofaaGreatDoor
open Go.RowKit

set_option maxHeartbeats 1000000 in
theorem ins_none (v f : Value) (a b : Int) (hab : b ≤ a + 1) (ha : 0 ≤ a ∧ a ≤ 100) (w : World) :
    Calls Tryz.prog 158 #[v, .int .i64 a, .int .i64 b, f] w fun e w' => e = .returned (.tuple #[]) ∧ w' = w := by
  go_enter Tryz.func158, Tryz.ntmps158
  go_wp2_with fail
  go_loopw [8] (fun i wr => i = .int .i64 (a + 1) ∧ wr = w) (fun _ _ => 0)
  case atStart => exact ⟨by first | rfl | go_num, rfl⟩
  case round =>
    obtain ⟨rfl, rfl⟩ := hrel
    have h1 : ¬ a + 1 < b := by omega
    go_wp2
    go_end0
    exact ⟨rfl, rfl⟩

theorem askC_length (x : Ask) : (askC x).length = 6 := rfl
theorem askC_one (x : Ask) : ∀ v ∈ askC x, v.oneCell' = true := by
  intro v hv
  simp only [askC, List.mem_cons, List.not_mem_nil, or_false] at hv
  rcases hv with rfl | rfl | rfl | rfl | rfl | rfl <;> rfl

/-- What the sort of a row returns, with its memory. -/
def SortPost (blk : Nat) (d : Array Ask) (w : World) (e : Ending) (w' : World) : Prop :=
  e = .returned (.tuple #[]) ∧ ∃ n os, w' = sortWorldK askC 6 w blk 0 n (Go.Sort.insertionSort (ltOf cmpA) d 0 d.size) os

set_option maxHeartbeats 2000000 in
theorem stable_any (d : Array Ask) (g : Nat) (cb : Array Value) (blk cap n : Nat) (w : World) (hd : d.size = n) (hn : n ≤ 20)
    (eg : ∀ args w, (callFunc g args).run Tryz.prog w = .ok (.enter g args) w) (hcmp : CmpLays Tryz.prog g cb askC 6 cmpA blk 0 d.size w) (hH : Go.Sort.HoldsK askC 6 w blk 0 d) (hblk : blk < w.heap.size) :
    Calls Tryz.prog 144 #[.slice (some ⟨blk, 0, none⟩) n cap, .int .i64 (n : Int), .func (.func g) #[] cb] w (SortPost blk d w) := by
  have hcon := AnyQ.insertionSortCmpFunc insL 6 Tryz.isAgg162 Tryz.sizeOf162 askC askC_length askC_one cmpA g cb blk 0 cap 0 d.size d w eg hcmp hH hblk (Nat.zero_le _) (Nat.le_refl _) (by omega)
  change Calls Tryz.prog 158 _ _ _ at hcon
  rw [hd] at hcon
  obtain ⟨S, hS⟩ : ∃ S, S = SortPost blk d w := ⟨_, rfl⟩
  rw [← hS]
  have hcon : Calls Tryz.prog 158 #[.slice (some ⟨blk, 0, none⟩) n cap, .int .i64 (0 : Nat), .int .i64 (n : Int), .func (.func g) #[] cb] w S := hcon.mono fun e w' h => by
    rw [hS]
    obtain ⟨h1, m, os, h2⟩ := h
    exact ⟨h1, m, os, by rw [hd]; exact h2⟩
  have HE : Hid (∀ e w', S e w' → e = .returned (.tuple #[])) := hid (by rw [hS]; exact fun e w' h => h.1)
  clear hH hcmp hd hS
  go_enter Tryz.func144, Tryz.ntmps144
  go_wp2_with fail
  by_cases hlt : n < 20
  · go_loopw [7, 8] (fun a b wr => a = .int .i64 0 ∧ b = .int .i64 20 ∧ wr = w) (fun _ _ _ => 0)
    case atStart => exact ⟨rfl, rfl, rfl⟩
    case round =>
      obtain ⟨rfl, rfl, rfl⟩ := hrel
      have h1 : ¬ (20 : Int) ≤ (n : Int) := by omega
      have h2 : ¬ (20 : Int) < (n : Int) := by omega
      go_wp2_with (go_at_call 158; refine hcon.mono ?_; intro e w' hp; obtain rfl := HE.out _ _ hp)
      go_loopw [6] (fun a wr => a = .int .i64 20 ∧ wr = w') (fun _ _ => 0)
      case atStart => exact ⟨rfl, rfl⟩
      case round =>
        obtain ⟨rfl, rfl⟩ := hrel
        go_wp2
        go_end0
        exact hp
  · have hn20 : n = 20 := by omega
    have k1 : (20 : Int) ≤ (n : Int) := by omega
    have k2 : ¬ (40 : Int) ≤ (n : Int) := by omega
    have k3 : ¬ (20 : Int) < (n : Int) := by omega
    have hcon20 : Calls Tryz.prog 158 #[.slice (some ⟨blk, 0, none⟩) n cap, .int .i64 0, .int .i64 20, .func (.func g) #[] cb] w S := by
      have h := hcon
      rw [show ((n : Nat) : Int) = 20 by omega] at h
      exact h
    have HN := hid hn20
    clear hn20 hlt hn hcon
    go_loopw [7, 8] (fun a b wr => (a = .int .i64 0 ∧ b = .int .i64 20 ∧ wr = w) ∨ (a = .int .i64 20 ∧ b = .int .i64 40 ∧ S (.returned (.tuple #[])) wr)) (fun _ b _ => 40 - (intOf b).toNat)
    case atStart => exact .inl ⟨rfl, rfl, rfl⟩
    case round =>
      rcases hrel with ⟨rfl, rfl, rfl⟩ | ⟨rfl, rfl, hp⟩
      · go_wp2_with (go_at_call 158; refine hcon20.mono ?_; intro e w' hp; obtain rfl := HE.out _ _ hp)
        go_roundw
        case rel => exact .inr ⟨rfl, rfl, hp⟩
        case measure => simp [intOf]
      · go_wp2_with (go_at_call 158; refine (ins_none _ _ 20 n (by have := HN.out; omega) (by omega) _).mono ?_; rintro e w' ⟨rfl, rfl⟩)
        go_loopw [6] (fun a wr' => a = .int .i64 20 ∧ wr' = w') (fun _ _ => 0)
        case atStart => exact ⟨rfl, rfl⟩
        case round =>
          obtain ⟨rfl, rfl⟩ := hrel
          go_wp2
          go_end0
          exact hp

set_option maxHeartbeats 1000000 in
theorem sortStable_any (d : Array Ask) (g : Nat) (cb : Array Value) (blk cap n : Nat) (w : World) (hd : d.size = n) (hn : n ≤ 20)
    (eg : ∀ args w, (callFunc g args).run Tryz.prog w = .ok (.enter g args) w) (hcmp : CmpLays Tryz.prog g cb askC 6 cmpA blk 0 d.size w) (hH : Go.Sort.HoldsK askC 6 w blk 0 d) (hblk : blk < w.heap.size) :
    Calls Tryz.prog 121 #[.slice (some ⟨blk, 0, none⟩) n cap, .func (.func g) #[] cb] w (SortPost blk d w) := by
  have hcon := stable_any d g cb blk cap n w hd hn eg hcmp hH hblk
  clear hcmp hH
  obtain ⟨S, hS⟩ : ∃ S, S = SortPost blk d w := ⟨_, rfl⟩
  have HE : Hid (∀ e w', S e w' → e = .returned (.tuple #[])) := hid (by rw [hS]; exact fun e w' h => h.1)
  rw [← hS] at hcon ⊢
  clear hS
  go_enter Tryz.func121, Tryz.ntmps121
  go_wp2_with (go_at_call 144; refine hcon.mono ?_; intro e w' hp; obtain rfl := HE.out _ _ hp)
  go_end0
  exact hp

set_option maxHeartbeats 1000000 in
theorem sortNone_any (f : Value) (a : Option Addr) (cap : Nat) (w : World) :
    Calls Tryz.prog 121 #[.slice a 0 cap, f] w fun e w' => e = .returned (.tuple #[]) ∧ w' = w := by
  have hcon : Calls Tryz.prog 144 #[.slice a 0 cap, .int .i64 0, f] w fun e w' => e = .returned (.tuple #[]) ∧ w' = w := by
    go_enter Tryz.func144, Tryz.ntmps144
    go_wp2_with fail
    go_loopw [7, 8] (fun a b wr => a = .int .i64 0 ∧ b = .int .i64 20 ∧ wr = w) (fun _ _ _ => 0)
    case atStart => exact ⟨rfl, rfl, rfl⟩
    case round =>
      obtain ⟨rfl, rfl, rfl⟩ := hrel
      go_wp2_with (go_at_call 158; refine (ins_none _ _ 0 0 (by omega) (by omega) _).mono ?_; rintro e w' ⟨rfl, rfl⟩)
      go_loopw [6] (fun a wr' => a = .int .i64 20 ∧ wr' = w') (fun _ _ => 0)
      case atStart => exact ⟨rfl, rfl⟩
      case round =>
        obtain ⟨rfl, rfl⟩ := hrel
        go_wp2
        go_end0
        exact ⟨rfl, rfl⟩
  go_enter Tryz.func121, Tryz.ntmps121
  go_wp2_with (go_at_call 144; refine hcon.mono ?_; rintro e w' ⟨rfl, rfl⟩)
  go_end0
  exact ⟨rfl, rfl⟩

end Go.Proofs.YtbampfkmgjfofaaGreatDoor
