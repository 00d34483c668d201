/- Mend: decisions in numbers: the order in which requests are taken, and what is answered to each. No memory is spoken of. Mend, the laws: what the chapter shows holds: awake. -/
import Derived.Test.YtbampfkmgjfofaaGreatDoorBI
import Derived.Test.YtbampfkmgjfofaaGreatDoorBK
namespace Go.Proofs.YtbampfkmgjfofaaGreatDoor
open Go.RowKit

/-- The request with that number, as it is asked. -/
def askI (L : List Req) (i : Nat) : Ask := ⟨(L.getD i default).b, (L.getD i default).m, (L.getD i default).f, (L.getD i default).c, none, 0, 0, i⟩

/-- Is the one taken sooner than the other one? -/
def soonB (L : List Req) (i k : Nat) : Bool := ltI (ltOf cmpA) (·.i) (askI L i) (askI L k)

theorem soonB_swo (L : List Req) : Go.Sort.SWO (soonB L) := by
  have h := ltI_swo cmpA_swo (·.i)
  exact ⟨fun x => h.irrefl _, fun x y z => h.trans _ _ _, fun x y z => h.ntrans _ _ _⟩

theorem soonB_eq {L : List Req} {i k : Nat} (h1 : soonB L i k = false) (h2 : soonB L k i = false) : i = k := by
  have key : ∀ a b : Ask, ltI (ltOf cmpA) (·.i) a b = false → ltI (ltOf cmpA) (·.i) b a = false → a.i = b.i := by
    intro a b h1 h2
    simp only [ltI, ltOf_cmpA, Bool.or_eq_false_iff, Bool.and_eq_false_iff, Bool.not_eq_false', decide_eq_true_eq, decide_eq_false_iff_not] at h1 h2
    omega
  exact key _ _ h1 h2

/-- One more, at its place. -/
def insI (L : List Req) (x : Nat) : List Nat → List Nat
  | [] => [x]
  | y :: r => if soonB L y x then y :: insI L x r else x :: y :: r

/-- The order in which requests are taken. -/
def ordI (L : List Req) : List Nat := (List.range L.length).foldr (insI L) []

theorem insI_perm (L : List Req) (x : Nat) : ∀ l, (insI L x l).Perm (x :: l)
  | [] => List.Perm.refl _
  | y :: r => by
    rw [insI]
    split
    · exact ((insI_perm L x r).cons y).trans (List.Perm.swap x y r)
    · exact List.Perm.refl _

theorem insI_sorted (L : List Req) (x : Nat) : ∀ l, l.Pairwise (fun i k => soonB L k i = false) → (insI L x l).Pairwise (fun i k => soonB L k i = false)
  | [], _ => by simp [insI]
  | y :: r, h => by
    rw [insI]
    rw [List.pairwise_cons] at h
    split
    · rename_i hc
      rw [List.pairwise_cons]
      refine ⟨fun k hk => ?_, insI_sorted L x r h.2⟩
      rcases List.mem_cons.1 ((insI_perm L x r).mem_iff.1 hk) with rfl | hk
      · exact (soonB_swo L).asymmA hc
      · exact h.1 k hk
    · rename_i hc
      have hc' : soonB L y x = false := by simpa using hc
      rw [List.pairwise_cons, List.pairwise_cons]
      refine ⟨fun k hk => ?_, h⟩
      rcases List.mem_cons.1 hk with rfl | hk
      · exact hc'
      · exact (soonB_swo L).ntrans _ _ _ (h.1 k hk) hc'

theorem foldr_perm (L : List Req) : ∀ l : List Nat, (l.foldr (insI L) []).Perm l
  | [] => List.Perm.refl _
  | x :: r => (insI_perm L x _).trans ((foldr_perm L r).cons x)

theorem foldr_sorted (L : List Req) : ∀ l : List Nat, (l.foldr (insI L) []).Pairwise (fun i k => soonB L k i = false)
  | [] => List.Pairwise.nil
  | x :: r => insI_sorted L x _ (foldr_sorted L r)

theorem ordI_perm (L : List Req) : (ordI L).Perm (List.range L.length) := foldr_perm L _
theorem ordI_sorted (L : List Req) : (ordI L).Pairwise (fun i k => soonB L k i = false) := foldr_sorted L _

/-- There is one order alone. -/
theorem order_one {L : List Req} : ∀ {A B : List Nat}, A.Perm B → A.Pairwise (fun i k => soonB L k i = false) → B.Pairwise (fun i k => soonB L k i = false) → A = B
  | [], B, hp, _, _ => (List.Perm.nil_eq hp)
  | x :: A, [], hp, _, _ => by have := hp.length_eq; simp at this
  | x :: A, y :: B, hp, ha, hb => by
    rw [List.pairwise_cons] at ha hb
    have hxy : x = y := by
      have hx : x ∈ y :: B := hp.mem_iff.1 (by simp)
      have hy : y ∈ x :: A := hp.mem_iff.2 (by simp)
      rcases List.mem_cons.1 hx with h | h
      · exact h
      · rcases List.mem_cons.1 hy with k | k
        · exact k.symm
        · exact soonB_eq (hb.1 x h) (ha.1 y k) |>.symm ▸ rfl
    subst hxy
    rw [order_one (List.perm_cons x |>.1 hp) ha.2 hb.2]

/-- Two requests as asked that say the same. -/
def Same4 (x y : Ask) : Prop := x.b = y.b ∧ x.m = y.m ∧ x.f = y.f ∧ x.c = y.c ∧ x.i = y.i

theorem same_of {w : World} {L : List Req} {x : Ask} (h : ReqIs w x (L.getD x.i default)) : Same4 x (askI L x.i) := ⟨h.1, h.2.1, h.2.2.1, h.2.2.2.1, rfl⟩

theorem meetA_same {x y x' y' : Ask} (h : Same4 x x') (k : Same4 y y') : meetA x y = meetA x' y' := by
  obtain ⟨-, -, h1, h2, -⟩ := h
  obtain ⟨-, -, k1, k2, -⟩ := k
  unfold meetA
  rw [h1, h2, k1, k2]

theorem aloneM_same {E : List Ent} {S : List (Int × Int × Int)} {R : List (Tx × Int)} {out win : Int} {L : List Req} {x y : Ask} (h : Same4 x y) : aloneM E S R out win L x = aloneM E S R out win L y := by
  obtain ⟨h1, h2, h3, h4, h5⟩ := h
  simp only [aloneM, zM, missesM, malformedM, lateM, h1, h2, h3, h4, h5]

inductive All2 : List Ask → List Ask → Prop
  | nil : All2 [] []
  | cons {x y : Ask} {A B : List Ask} : Same4 x y → All2 A B → All2 (x :: A) (y :: B)

theorem All2.snoc {x y : Ask} (h : Same4 x y) : ∀ {A B : List Ask}, All2 A B → All2 (A ++ [x]) (B ++ [y])
  | _, _, .nil => .cons h .nil
  | _, _, .cons k r => .cons k (r.snoc h)

theorem any_same {V V' : List Ask} {x x' : Ask} (hx : Same4 x x') : All2 V V' → V.any (fun y => meetA y x) = V'.any (fun y => meetA y x') := by
  intro h
  induction h with
  | nil => rfl
  | cons h1 _ ih => rw [List.any_cons, List.any_cons, meetA_same h1 hx, ih]

theorem step_same {al : Ask → Int} (hal : ∀ x y, Same4 x y → al x = al y) {x y : Ask} (h : Same4 x y) {s t : (Nat → Int) × List Ask} (h1 : s.1 = t.1) (h2 : All2 s.2 t.2) : (stepA al s x).1 = (stepA al t y).1 ∧ All2 (stepA al s x).2 (stepA al t y).2 := by
  have hv : verdictA al s.2 x = verdictA al t.2 y := by unfold verdictA; rw [hal _ _ h, any_same h h2]
  unfold stepA
  rw [hv]
  split
  · exact ⟨h1, h2.snoc h⟩
  · refine ⟨?_, h2⟩
    rw [h1, h.2.2.2.2]

theorem fold_same {al : Ask → Int} (hal : ∀ x y, Same4 x y → al x = al y) : ∀ {A B : List Ask}, All2 A B → ∀ {s t : (Nat → Int) × List Ask}, s.1 = t.1 → All2 s.2 t.2 → (A.foldl (stepA al) s).1 = (B.foldl (stepA al) t).1 ∧ All2 (A.foldl (stepA al) s).2 (B.foldl (stepA al) t).2
  | _, _, .nil, _, _, h1, h2 => ⟨h1, h2⟩
  | _, _, .cons h r, _, _, h1, h2 => by
    have := step_same hal h h1 h2
    exact fold_same hal r this.1 this.2

/-- The requests as asked, in their order. -/
def askedI (L : List Req) : List Ask := (ordI L).map (askI L)

theorem all2_map {w : World} {L : List Req} : ∀ {T : List Ask}, (∀ x ∈ T, ReqIs w x (L.getD x.i default)) → All2 T ((T.map (·.i)).map (askI L))
  | [], _ => .nil
  | x :: T, h => .cons (same_of (h x (by simp))) (all2_map (fun y hy => h y (by simp [hy])))

theorem taken_order {w : World} {L : List Req} {T : List Ask} (h : TakenOk w L T) : T.map (·.i) = ordI L := by
  refine order_one (h.2.2.1.trans (ordI_perm L).symm) ?_ (ordI_sorted L)
  rw [List.pairwise_map]
  refine h.2.2.2.imp_of_mem ?_
  intro x y hx hy hlt
  have sx := same_of (h.2.1 x hx).2
  have sy := same_of (h.2.1 y hy).2
  have e : ltI (ltOf cmpA) (·.i) (askI L y.i) (askI L x.i) = ltI (ltOf cmpA) (·.i) y x := by
    simp only [ltI, ltOf_cmpA, sx.1, sx.2.1, sy.1, sy.2.1]
    rfl
  exact e.trans hlt

/-- What is decided. -/
def decideM (l : Lex) (S : List (Int × Int × Int)) (R : List (Tx × Int)) (out win : Int) (L : List Req) : Nat → Int := (runA (aloneM (entries l) S R out win L) (askedI L)).1

/-- The requests that are accepted, in the order in which they were taken. -/
def acceptM (l : Lex) (S : List (Int × Int × Int)) (R : List (Tx × Int)) (out win : Int) (L : List Req) : List Ask := (runA (aloneM (entries l) S R out win L) (askedI L)).2

theorem run_order {w : World} {l : Lex} {S : List (Int × Int × Int)} {R : List (Tx × Int)} {out win : Int} {L : List Req} {T : List Ask} (h : TakenOk w L T) :
    (runA (aloneM (entries l) S R out win L) T).1 = decideM l S R out win L ∧ All2 (runA (aloneM (entries l) S R out win L) T).2 (acceptM l S R out win L) := by
  have h2 := all2_map (fun x hx => (h.2.1 x hx).2)
  rw [taken_order h] at h2
  exact fold_same (fun x y => aloneM_same) h2 rfl .nil

end Go.Proofs.YtbampfkmgjfofaaGreatDoor

namespace Go.Proofs.YtbampfkmgjfofaaGreatDoor
open Go.RowKit

def tDid : Tx := ⟨#[100, 105, 100]⟩
def tPay : Tx := ⟨#[112, 97, 121]⟩
def t007 : Tx := ⟨#[48, 48, 55]⟩
def t8 : Tx := ⟨#[56]⟩
def texts0 : List Tx := [tSmyth, tDid, tNot, tPay, tTen, t007, t8]

theorem sense0 : senseErr lex0 texts0 = 0 ∧ senseM (entries lex0) texts0 = [(2, 0), (3, 0), (1, 10), (1, 8)] := by decide +kernel
theorem trouble0e : troubleErr lex0 swaps0 [tNot, tTen] [tNever, t12] = 0 := by decide +kernel
theorem trouble0a : senseM (entries lex0) [tNot, tTen] = [(3, 0), (1, 10)] := by decide +kernel
theorem trouble0b : senseM (entries lex0) [tNever, t12] = [(3, 0), (1, 12)] := by decide +kernel
theorem trouble0m : mayM swaps0 (3, 0) (3, 0) = true ∧ mayM swaps0 (3, 0) (1, 12) = false ∧ mayM swaps0 (1, 10) (3, 0) = false ∧ mayM swaps0 (1, 10) (1, 12) = true := by decide +kernel
theorem trouble0 : troubleF lex0 swaps0 [tNot, tTen] [tNever, t12] = 0 := by
  obtain ⟨m1, m2, m3, m4⟩ := trouble0m
  rw [troubleF, trouble0e, if_pos rfl, trouble0a, trouble0b, troubleM]
  simp [tabM, m1, m2, m3, m4]
  omega
theorem hear0 : hearErr lex0 swaps0 rep0 100 60 reqs0 = 0 := by decide +kernel
theorem decide0 : decideM lex0 swaps0 rep0 100 60 reqs0 0 = 0 ∧ decideM lex0 swaps0 rep0 100 60 reqs0 1 = 0 ∧ decideM lex0 swaps0 rep0 100 60 reqs0 2 = 5 ∧ decideM lex0 swaps0 rep0 100 60 reqs0 3 = 11 ∧ decideM lex0 swaps0 rep0 100 60 reqs0 4 = 9 := by decide +kernel

set_option maxRecDepth 100000 in
set_option maxHeartbeats 4000000 in
theorem awake_any (w : World) (hstd : Std w) : Calls Tryz.prog 17 #[] w fun e w' => e = .returned (.bool true) ∧ Below w.heap.size w w' := by
  go_enter Tryz.func17, Tryz.ntmps17
  go_wp2_with fail
  refine (words_any w).mono ?_
  rintro e w1 ⟨a1, a2, a3, sa, rfl, hL1, hS1, hb1⟩
  obtain ⟨W2, hW2⟩ : ∃ W, W = w1.alloc (.cells #[.slice a1 2 2, .slice a2 2 2, .slice a3 2 2] 34) := ⟨_, rfl⟩
  have hb2 : Below w1.heap.size w1 W2 := by rw [hW2]; exact below_alloc w1 _
  have c0 : W2.cell? ⟨w1.heap.size, 0, none⟩ = some (.slice a1 2 2) := by rw [hW2]; simp [go_sem]
  have c1 : W2.cell? ⟨w1.heap.size, 1, none⟩ = some (.slice a2 2 2) := by rw [hW2]; simp [go_sem]
  have c2 : W2.cell? ⟨w1.heap.size, 2, none⟩ = some (.slice a3 2 2) := by rw [hW2]; simp [go_sem]
  obtain ⟨lb, hlb⟩ : ∃ b, b = w1.heap.size := ⟨_, rfl⟩
  obtain ⟨W3, hW3⟩ : ∃ W, W = W2.alloc (.cells #[.string tSmyth, .string tDid, .string tNot, .string tPay, .string tTen, .string t007, .string t8] 9) := ⟨_, rfl⟩
  have hb3 : Below W2.heap.size W2 W3 := by rw [hW3]; exact below_alloc W2 _
  have z2 : W2.heap.size = w1.heap.size + 1 := by rw [hW2]; simp
  have hT3 : Strs W3 (some ⟨w1.heap.size + 1, 0, none⟩) texts0 := by
    intro i hi
    rw [hW3, ← z2]
    rcases (by simp [texts0] at hi; omega : i = 0 ∨ i = 1 ∨ i = 2 ∨ i = 3 ∨ i = 4 ∨ i = 5 ∨ i = 6) with rfl | rfl | rfl | rfl | rfl | rfl | rfl <;> exact ⟨_, 0, rfl, by simp [go_sem, texts0]⟩
  have hB3 : Below w.heap.size w W3 := below_then (below_then hb1 hb2) hb3
  have hL3 := (hL1.grown hb2).grown hb3
  have hS3 := (hS1.grown hb2).grown hb3
  replace c0 := cell_grown hb3 c0
  replace c1 := cell_grown hb3 c1
  replace c2 := cell_grown hb3 c2
  rw [hW2] at hW3
  unfold tSmyth tDid tNot tPay tTen t007 t8 at hW3
  go_wp2_with fail
  rw [← hW3]
  clear hW3 hW2
  obtain ⟨kb, hkb⟩ : ∃ b, w1.heap.size = b := ⟨_, rfl⟩
  rw [hkb] at c0 c1 c2 hT3 ⊢
  clear hkb hlb hb3 hb2 hb1 hL1 hS1 z2
  clear lb
  obtain ⟨se1, se2⟩ := sense0
  refine (senseF_any lex0 a1 a2 a3 2 2 2 2 2 2 texts0 7 7 _ W3 rfl rfl rfl hL3 rfl (by unfold maxLen; decide) hT3 (hstd.grown hB3)).mono ?_
  rintro e w4 ⟨hb4, he⟩
  rw [if_pos se1, se2] at he
  obtain ⟨ra, rc, rfl, hown4⟩ := he
  have hM4 : Marks w4 ra [(2, 0), (3, 0), (1, 10), (1, 8)] := marks_of_owns hown4
  clear hown4 hT3
  have hB4 := below_then hB3 hb4
  replace c0 := cell_grown hb4 c0
  replace c1 := cell_grown hb4 c1
  replace c2 := cell_grown hb4 c2
  have kl := lt_of_cell c0
  have hL4 := hL3.grown hb4
  have hS4 := hS3.grown hb4
  clear hL3 hS3 hb4 hB3
  clear W3
  obtain ⟨W5, hW5⟩ : ∃ W, W = (w4.alloc (.cells #[.string tNot, .string tTen] 9)).alloc (.cells #[.string tNever, .string t12] 9) := ⟨_, rfl⟩
  have hb5 : Below w4.heap.size w4 W5 := by rw [hW5]; exact ((Below.refl _ w4).alloc (Nat.le_refl _) _).alloc (by simp) _
  have hA5 : Strs W5 (some ⟨w4.heap.size, 0, none⟩) [tNot, tTen] := by rw [hW5]; exact strs_two (by simp [go_sem]) (by simp [go_sem])
  have hC5 : Strs W5 (some ⟨w4.heap.size + 1, 0, none⟩) [tNever, t12] := by rw [hW5]; exact strs_two (by simp [go_sem]) (by simp [go_sem])
  have hB5 := below_then hB4 hb5
  have hL5 := hL4.grown hb5
  have hS5 := hS4.grown hb5
  have hM5 := hM4.grown hb5
  have d0 := c0
  have d1 := c1
  have d2 := c2
  have kl2 := lt_of_cell d0
  replace c0 := cell_grown hb5 c0
  replace c1 := cell_grown hb5 c1
  replace c2 := cell_grown hb5 c2
  unfold tNot tTen tNever t12 at hW5
  clear hM4 hL4 hS4 hb5 hB4
  go_wp2_with fail
  rw [← hW5]
  clear hW5 d0 d1 d2 kl2
  refine (troubleF_any lex0 a1 a2 a3 2 2 2 2 2 2 swaps0 sa 1 1 [tNot, tTen] [tNever, t12] 2 2 2 2 _ _ W5 rfl rfl rfl hL5 rfl (by unfold maxLen; decide) hS5 rfl (by unfold maxLen; decide) hA5 rfl (by unfold maxLen; decide) hC5 (hstd.grown hB5)).mono ?_
  rintro e w6 ⟨rfl, hb6⟩
  rw [trouble0, trouble0e]
  have hB6 := below_then hB5 hb6
  have hL6 := hL5.grown hb6
  have hS6 := hS5.grown hb6
  have hM6 := hM5.grown hb6
  replace c0 := cell_grown hb6 c0
  replace c1 := cell_grown hb6 c1
  replace c2 := cell_grown hb6 c2
  clear hA5 hC5 hL5 hS5 hM5 hb6 hB5 kl
  clear W5
  go_wp2_with fail
  refine (asked_any w6).mono ?_
  rintro e w7 ⟨wa, qa, rfl, hR7, hQ7, hb7⟩
  obtain ⟨W8, hW8⟩ : ∃ W, W = w7.alloc (.cells #[.slice wa 4 4, .int .i64 100, .int .i64 60] 62) := ⟨_, rfl⟩
  have hb8 : Below w7.heap.size w7 W8 := by rw [hW8]; exact below_alloc w7 _
  have hb78 := below_then hb7 hb8
  have hB8 := below_then hB6 hb78
  have hL8 := hL6.grown hb78
  have hS8 := hS6.grown hb78
  have hM8 := hM6.grown hb78
  have hR8 := hR7.grown hb8
  have hQ8 := hQ7.grown hb8
  replace c0 := cell_grown hb78 c0
  replace c1 := cell_grown hb78 c1
  replace c2 := cell_grown hb78 c2
  have d0 := c0
  have d1 := c1
  have d2 := c2
  rw [hW8] at d0 d1 d2
  have kl := lt_of_cell d0
  clear hL6 hS6 hM6 hR7 hQ7 hb78 hb7 hB6
  go_wp2_with fail
  rw [← hW8]
  clear hW8 d0 d1 d2 kl hb8
  refine (decideF_any lex0 a1 a2 a3 2 2 2 2 2 2 swaps0 sa 1 1 rep0 wa 4 4 100 60 reqs0 qa 5 5 W8 rfl rfl rfl hL8 rfl (by unfold maxLen; decide) hS8 rfl (by unfold maxLen; decide) (Nat.le_refl _) hR8 rfl hQ8 (fun q hq => by simp only [reqs0, List.mem_cons, List.not_mem_nil, or_false] at hq; rcases hq with rfl | rfl | rfl | rfl | rfl <;> exact ⟨by decide, by decide⟩) (hstd.grown hB8)).mono ?_
  rintro e w9 ⟨Wm, hbm, hb9, he⟩
  rw [if_pos hear0] at he
  obtain ⟨ab, T, rfl, hT, hrow⟩ := he
  rw [(run_order hT).1] at hrow
  have hI9 := IntsAt.of_row hrow
  have hb89 := below_then hbm hb9
  have hB9 := below_then hB8 hb89
  have hM9 := hM8.grown hb89
  clear hrow hT hL8 hS8 hM8 hR8 hQ8 hbm hb9 hb89 hB8 c0 c1 c2
  clear Wm W8
  have hB10 := hB9.alloc hB9.size (.cells #[.int .u8 2, .int .i64 0, .int .u8 3, .int .i64 0, .int .u8 1, .int .i64 10, .int .u8 1, .int .i64 8] 113)
  go_wp2_with fail
  obtain ⟨W10, hW10⟩ : ∃ W, W = w9.alloc (.cells #[.int .u8 2, .int .i64 0, .int .u8 3, .int .i64 0, .int .u8 1, .int .i64 10, .int .u8 1, .int .i64 8] 113) := ⟨_, rfl⟩
  rw [← hW10] at hB10 ⊢
  have hb10 : Below w9.heap.size w9 W10 := by rw [hW10]; exact below_alloc w9 _
  have hC10 : Marks W10 (some ⟨w9.heap.size, 0, none⟩) [(2, 0), (3, 0), (1, 10), (1, 8)] := by
    intro i hi
    rw [hW10]
    rcases (by simp at hi; omega : i = 0 ∨ i = 1 ∨ i = 2 ∨ i = 3) with rfl | rfl | rfl | rfl <;> exact ⟨_, 0, rfl, by simp [go_sem], by simp [go_sem]⟩
  clear hW10
  refine (marks_any [(2, 0), (3, 0), (1, 10), (1, 8)] [(2, 0), (3, 0), (1, 10), (1, 8)] 4 4 rc 4 ra _ W10 (by omega) rfl rfl (hM9.grown hb10) hC10).mono ?_
  rintro e w11 ⟨rfl, hb11⟩
  have hB11 := below_then hB10 hb11
  have hI11 := hI9.grown (below_then hb10 hb11)
  clear hb10 hC10 hM9 hI9 hB10 hb11
  clear W10
  have e1 : (decide (([(2, 0), (3, 0), (1, 10), (1, 8)] : List (Int × Int)) = [(2, 0), (3, 0), (1, 10), (1, 8)])) = true := by simp
  rw [e1]
  clear e1
  obtain ⟨W12, hW12⟩ : ∃ W, W = w11.alloc (.cells #[.int .i64 0, .int .i64 0, .int .i64 5, .int .i64 11, .int .i64 9] 30) := ⟨_, rfl⟩
  have hb12 : Below w11.heap.size w11 W12 := by rw [hW12]; exact below_alloc w11 _
  have hC12 : IntsAt W12 (some ⟨w11.heap.size, 0, none⟩) 5 (decideM lex0 swaps0 rep0 100 60 reqs0) := by
    obtain ⟨q0, q1, q2, q3, q4⟩ := decide0
    intro i hi
    rw [hW12]
    rcases (by omega : i = 0 ∨ i = 1 ∨ i = 2 ∨ i = 3 ∨ i = 4) with rfl | rfl | rfl | rfl | rfl
    · exact ⟨_, 0, rfl, by rw [q0]; simp [go_sem]⟩
    · exact ⟨_, 0, rfl, by rw [q1]; simp [go_sem]⟩
    · exact ⟨_, 0, rfl, by rw [q2]; simp [go_sem]⟩
    · exact ⟨_, 0, rfl, by rw [q3]; simp [go_sem]⟩
    · exact ⟨_, 0, rfl, by rw [q4]; simp [go_sem]⟩
  have hB12 := below_then hB11 hb12
  have hI12 := hI11.grown hb12
  go_wp2_with fail
  rw [← hW12]
  clear hW12 hB11 hI11 hb12
  refine (errors_any (decideM lex0 swaps0 rep0 100 60 reqs0) (decideM lex0 swaps0 rep0 100 60 reqs0) 5 5 5 5 _ _ W12 (by omega) hI12 hC12).mono ?_
  rintro e w13 ⟨rfl, hb13⟩
  have hB13 := below_then hB12 hb13
  have e2 : (decide ((5 : Nat) = 5) && allN 5 fun i => decide (decideM lex0 swaps0 rep0 100 60 reqs0 i = decideM lex0 swaps0 rep0 100 60 reqs0 i)) = true := by
    rw [(allN_of 5 _).2 (fun i _ => by simp)]
    rfl
  rw [e2]
  clear e2 hI12 hC12 hB12 hb13
  go_wp2
  go_ret
  exact ⟨rfl, hB13⟩

end Go.Proofs.YtbampfkmgjfofaaGreatDoor
