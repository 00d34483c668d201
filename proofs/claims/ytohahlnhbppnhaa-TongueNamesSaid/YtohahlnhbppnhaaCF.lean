/- Tongue: the table of halves. -/
import Derived.Test.YtohahlnhbppnhaaCE
import Derived.Test.YtohahlnhbppnhaaBZ
import Derived.Test.YtohahlnhbppnhaaBT
import Derived.Test.YtohahlnhbppnhaaL
import Derived.StillTailTactics
namespace Go.Proofs.Ytohahlnhbppnhaa
open Go.RowKit
set_option linter.unusedSimpArgs false
set_option linter.unusedVariables false

theorem Try.info41b : (Try.prog.info? 41).map (fun i => (i.zero, i.size, i.bytes)) = some (some (.slice none 0 0), 1, 24) := by kernel_rfl

/-- A table whose first j rows are there. -/
structure GridP (W : World) (B ob N M j : Nat) (F : Nat → Nat → Int) (g : Nat → Nat) : Prop where
  le : B ≤ ob
  outer : W.rowIs ob 41 N (fun i => if i < j then .slice (some ⟨g i, 0, none⟩) M M else .slice none 0 0)
  low : ∀ i, i < j → B ≤ g i
  apart : ∀ i, i < j → g i ≠ ob
  row : ∀ i, i < j → W.rowIs (g i) 3 M (fun q => .int .i64 (F i q))
  inj : ∀ i k, i < j → k < j → g i = g k → i = k

theorem GridP.made (W : World) (B N M : Nat) (F : Nat → Nat → Int) (g : Nat → Nat) (hB : B ≤ W.heap.size) : GridP (W.alloc (.cells (madeCells #[.slice none 0 0] N) 41)) B W.heap.size N M 0 F g :=
  ⟨hB, (World.rowIs_made W (.slice none 0 0) N 41).congr (fun i _ => by simp), fun i h => by omega, fun i h => by omega, fun i h => by omega, fun i k h => by omega⟩

theorem GridP.grown {W W' : World} {B ob N M j : Nat} {F : Nat → Nat → Int} {g : Nat → Nat} (h : GridP W B ob N M j F g) (hb : Below W.heap.size W W') : GridP W' B ob N M j F g :=
  ⟨h.le, h.outer.of_block (hb.block _ h.outer.lt), h.low, h.apart, fun i hi => (h.row i hi).of_block (hb.block _ (h.row i hi).lt), h.inj⟩

theorem GridP.congr {W : World} {B ob N M j : Nat} {F G : Nat → Nat → Int} {g : Nat → Nat} (h : GridP W B ob N M j F g) (e : ∀ i q, i < j → q < M → F i q = G i q) : GridP W B ob N M j G g :=
  ⟨h.le, h.outer, h.low, h.apart, fun i hi => (h.row i hi).congr (fun q hq => by rw [e i q hi hq]), h.inj⟩

/-- One row more. -/
theorem GridP.push {W : World} {B ob N M j G : Nat} {F : Nat → Nat → Int} {g : Nat → Nat} (h : GridP W B ob N M j F g) (hj : j < N) (hG : B ≤ G) (hrow : W.rowIs G 3 M (fun _ => .int .i64 0)) (hne : ∀ i, i < j → g i ≠ G) (hob : G ≠ ob) :
    GridP (W.setCell ⟨ob, j, none⟩ (.slice (some ⟨G, 0, none⟩) M M)) B ob N M (j + 1) (fun i q => if i = j then 0 else F i q) (fun i => if i = j then G else g i) := by
  refine ⟨h.le, (h.outer.set j _).congr (fun i hi => ?_), fun i hi => ?_, fun i hi => ?_, fun i hi => ?_, fun i k hi hk e => ?_⟩
  · by_cases e : i = j
    · subst e; simp
    · simp only [if_neg e]
      by_cases h1 : i < j
      · rw [if_pos h1, if_pos (by omega)]
      · rw [if_neg h1, if_neg (by omega)]
  · by_cases e : i = j
    · simp only [if_pos e]; exact hG
    · simp only [if_neg e]; exact h.low i (by omega)
  · by_cases e : i = j
    · simp only [if_pos e]; exact hob
    · simp only [if_neg e]; exact h.apart i (by omega)
  · by_cases e : i = j
    · simp only [if_pos e]
      exact hrow.setOther (a := ⟨ob, j, none⟩) hob _
    · simp only [if_neg e]
      exact (h.row i (by omega)).setOther (a := ⟨ob, j, none⟩) (h.apart i (by omega)) _
  · by_cases e1 : i = j <;> by_cases e2 : k = j
    · omega
    · simp only [if_pos e1, if_neg e2] at e
      exact absurd e.symm (hne k (by omega))
    · simp only [if_neg e1, if_pos e2] at e
      exact absurd e (hne i (by omega))
    · simp only [if_neg e1, if_neg e2] at e
      exact h.inj i k (by omega) (by omega) e

theorem GridP.put {W : World} {B ob N M j : Nat} {F : Nat → Nat → Int} {g : Nat → Nat} (h : GridP W B ob N M j F g) {i : Nat} (hi : i < j) (q : Nat) (z : Int) :
    GridP (W.setCell ⟨g i, q, none⟩ (.int .i64 z)) B ob N M j (fun k p => if k = i ∧ p = q then z else F k p) g := by
  refine ⟨h.le, h.outer.setOther (a := ⟨g i, q, none⟩) (fun e => h.apart i hi e.symm) _, h.low, h.apart, fun k hk => ?_, h.inj⟩
  by_cases e : k = i
  · subst e
    refine ((h.row k hk).set q (.int .i64 z)).congr (fun p hp => ?_)
    by_cases e2 : p = q <;> simp [e2]
  · refine ((h.row k hk).setOther (a := ⟨g i, q, none⟩) (fun e2 => e (h.inj k i hk hi e2)) (.int .i64 z)).congr (fun p hp => ?_)
    simp [e]

theorem GridP.whole {W : World} {B B0 ob N M : Nat} {F : Nat → Nat → Int} {g : Nat → Nat} (h : GridP W B ob N M N F g) (hN : N ≤ 1000) (hB : B0 ≤ B) : GridG W B0 (.slice (some ⟨ob, 0, none⟩) N N) N M F g := by
  refine ⟨⟨by simp, .inr ?_⟩, fun i hi => Nat.le_trans hB (h.low i hi), fun i hi e => ?_, h.row, h.inj⟩
  · obtain ⟨c, hb, hn, hc⟩ := h.outer
    refine ⟨ob, N, c, rfl, Nat.le_trans hB h.le, hb, Nat.le_refl _, by unfold maxLen; omega, by omega, ?_⟩
    refine List.ext_getElem? fun i => ?_
    by_cases hi : i < N
    · have e1 : c.toList[i]? = some (.slice (some ⟨g i, 0, none⟩) M M) := by
        have := hc i hi
        simp only [hi, if_true] at this
        rw [← this]
        simp
      rw [List.getElem?_take_of_lt (by omega), e1, List.getElem?_map, List.getElem?_range hi]
      rfl
    · rw [List.getElem?_eq_none (by simp; omega), List.getElem?_eq_none (by simp; omega)]
  · simp only [Value.ownBlock, Option.some.injEq] at e
    exact h.apart i hi e.symm

theorem FineT.rev {T : List Sen} (h : FineT T) : FineT T.reverse := ⟨by rw [List.length_reverse]; exact h.1, fun s hs => h.2.1 s (List.mem_reverse.1 hs), marksOk_reverse h.2.2⟩

set_option maxRecDepth 100000 in
set_option maxHeartbeats 4000000 in
theorem halves_any (L R : List Sen) (n nc m mc b b0 b2 : Nat) (la ra : Option Addr) (w : World) (hL : L.length = n) (hR : R.length = m) (hn : n ≤ 20) (hm : m ≤ 20) (fL : FineT L) (fR : FineT R) (hS : TextAt w la L) (hT : TextAt w ra R) (hC : ChargesAt w b b0 b2) :
    Calls Try.prog 64 #[.agg #[.slice la n nc, .int .u8 0, .int .i64 0, .slice ra m mc, .int .u8 1, .int .i64 0, .slice (some ⟨b, 0, none⟩) 3 3]] w fun e w' => ∃ a c g, e = .returned (.slice a (n + 1) c) ∧ GridG w' w.heap.size (.slice a (n + 1) c) (n + 1) (m + 1) (halfM L R) g ∧ Below w.heap.size w w' := by
  obtain ⟨pb, hpb⟩ : ∃ q, q = w.heap.size := ⟨_, rfl⟩
  obtain ⟨W0, hW0⟩ : ∃ X, X = w.alloc (.cells #[.slice la n nc, .int .u8 0, .int .i64 0, .slice ra m mc, .int .u8 1, .int .i64 0, .slice (some ⟨b, 0, none⟩) 3 3] 119) := ⟨_, rfl⟩
  have hB0 : Below w.heap.size w W0 := by rw [hW0]; exact below_alloc _ _
  have p0 : W0.cell? ⟨pb, 0, none⟩ = some (.slice la n nc) := by rw [hW0, hpb]; simp [go_sem]
  have p1 : W0.cell? ⟨pb, 1, none⟩ = some (.int .u8 0) := by rw [hW0, hpb]; simp [go_sem]
  have p2 : W0.cell? ⟨pb, 2, none⟩ = some (.int .i64 0) := by rw [hW0, hpb]; simp [go_sem]
  have p3 : W0.cell? ⟨pb, 3, none⟩ = some (.slice ra m mc) := by rw [hW0, hpb]; simp [go_sem]
  have p4 : W0.cell? ⟨pb, 4, none⟩ = some (.int .u8 1) := by rw [hW0, hpb]; simp [go_sem]
  have p5 : W0.cell? ⟨pb, 5, none⟩ = some (.int .i64 0) := by rw [hW0, hpb]; simp [go_sem]
  have p6 : W0.cell? ⟨pb, 6, none⟩ = some (.slice (some ⟨b, 0, none⟩) 3 3) := by rw [hW0, hpb]; simp [go_sem]
  have gp := lt_of_cell p0
  have hpd : ∀ W, Calls Try.prog 84 #[.agg #[.slice la n nc, .int .u8 0, .int .i64 0, .slice ra m mc, .int .u8 1, .int .i64 0, .slice (some ⟨b, 0, none⟩) 3 3]] W fun e w' => e = .returned (.agg #[.int .i64 (n : Int), .int .i64 (m : Int)]) ∧ Below W.heap.size W w' := fun W => by
    have h := pend_any 0 1 n nc 0 m mc 0 la ra (some ⟨b, 0, none⟩) 3 3 W (by omega) (by omega) (by omega) (by omega)
    rw [Nat.zero_add, Nat.zero_add] at h
    exact h
  have hbl := fun W hb => backwards_any L n nc 0 0 la W hL (by omega) (hS.grown (w' := W) (below_then hB0 hb))
  have hbr := fun W hb => backwards_any R m mc 1 0 ra W hR (by omega) (hT.grown (w' := W) (below_then hB0 hb))
  have hrs := fun x xc y yc W (hA : TextAt W x L.reverse) (hB : TextAt W y R.reverse) h1 h2 hb => rests_any L.reverse R.reverse n xc m yc b b0 b2 x y W (by rw [List.length_reverse, hL]) (by rw [List.length_reverse, hR]) fL.rev fR.rev h1 h2 hA hB (hC.grown (w' := W) (below_then hB0 hb))
  have HHA : Hid (∀ i k, restM L.reverse R.reverse (n - i) (m - k) = halfM L R i k) := hid (fun i k => by unfold halfM; rw [hL, hR])
  have HRB : Hid (∀ i k, 0 ≤ restM L.reverse R.reverse i k ∧ restM L.reverse R.reverse i k ≤ 82400) := hid (restM_20 (by rw [List.length_reverse]; omega) (by rw [List.length_reverse]; omega))
  obtain ⟨N, hN⟩ : ∃ N, n + 1 = N := ⟨_, rfl⟩
  obtain ⟨M, hM⟩ : ∃ M, m + 1 = M := ⟨_, rfl⟩
  have wN : IntKind.i64.wrap ((n : Int) + 1) = (N : Int) := by rw [IntKind.wrap_i64]; omega
  have wM : IntKind.i64.wrap ((m : Int) + 1) = (M : Int) := by rw [IntKind.wrap_i64]; omega
  have hmkO : ∀ W : World, (Instr.makeSlice 52 (.int .i64 (N : Int)) (.int .i64 (N : Int))).run Try.prog W = .ok (.slice (some ⟨W.heap.size, 0, none⟩) N N) (W.alloc (.cells (madeCells #[.slice none 0 0] N) 41)) := fun W => run_make_row' 52 41 (.slice none 0 0) 24 Try.underlying52 Try.info41b rfl .i64 .i64 N (by omega) (by omega) W
  have hmk : ∀ W : World, (Instr.makeSlice 41 (.int .i64 (M : Int)) (.int .i64 (M : Int))).run Try.prog W = .ok (.slice (some ⟨W.heap.size, 0, none⟩) M M) (W.alloc (.cells (madeCells #[.int .i64 0] M) 3)) := fun W => run_make_row' 41 3 (.int .i64 0) 8 Try.underlying41 Try.info3 rfl .i64 .i64 M (by omega) (by omega) W
  rw [hN, hM]
  have HN := hid hN
  have HM := hid hM
  have HW0 := hid hW0
  clear hL hR hS hT hC fL fR hN hM hW0
  go_enter Try.func64, Try.ntmps64
  go_upto_region 1 with (fail)
  rw [← HW0.out, ← hpb]
  have HPB := hid hpb
  clear hpb HW0
  go_upto_region 2 with (first | (go_at_call 84; refine (hpd _).mono ?_; rintro e w1 ⟨rfl, hb1⟩))
  obtain ⟨tb, htb⟩ : ∃ q, q = w1.heap.size := ⟨_, rfl⟩
  obtain ⟨W2, hW2⟩ : ∃ X, X = w1.alloc (.cells #[.int .i64 (n : Int), .int .i64 (m : Int)] 150) := ⟨_, rfl⟩
  have hbW := below_then hb1 (by rw [hW2]; exact below_alloc _ _ : Below w1.heap.size w1 W2)
  have q0 : W2.cell? ⟨tb, 0, none⟩ = some (.int .i64 (n : Int)) := by rw [hW2, htb]; simp [go_sem]
  have q1 : W2.cell? ⟨tb, 1, none⟩ = some (.int .i64 (m : Int)) := by rw [hW2, htb]; simp [go_sem]
  have htl : W0.heap.size ≤ tb := by rw [htb]; exact hb1.size
  rw [← hW2, ← htb]
  have HHS := hid hW2
  replace p0 := cell_grown hbW p0
  replace p1 := cell_grown hbW p1
  replace p2 := cell_grown hbW p2
  replace p3 := cell_grown hbW p3
  replace p4 := cell_grown hbW p4
  replace p5 := cell_grown hbW p5
  replace p6 := cell_grown hbW p6
  replace gp := lt_of_cell p0
  have hBd : Below W2.heap.size W2 W2.drew := (Below.refl _ _).drew
  have hL1 := fun W hb => hbl W (below_then hbW hb)
  have hR1 := fun W hb => hbr W (below_then hbW hb)
  have hrs1 := fun x xc y yc W hA hB h1 h2 hb => hrs x xc y yc W hA hB h1 h2 (below_then hbW hb)
  have hB02 := below_then hB0 hbW
  clear htb hW2 hb1 hbl hbr hrs hpd hbW hB0 HHS
  go_region_held3 (fun w' : World => w'.cell? ⟨pb, 0, none⟩ = some (.slice la n nc) ∧ w'.cell? ⟨pb, 1, none⟩ = some (.int .u8 0) ∧ w'.cell? ⟨pb, 2, none⟩ = some (.int .i64 0) ∧ w'.cell? ⟨pb, 3, none⟩ = some (.slice ra m mc) ∧ w'.cell? ⟨pb, 4, none⟩ = some (.int .u8 1) ∧ w'.cell? ⟨pb, 5, none⟩ = some (.int .i64 0) ∧ w'.cell? ⟨pb, 6, none⟩ = some (.slice (some ⟨b, 0, none⟩) 3 3)) (first | with_reducible exact ⟨cell_grown hBd p0, cell_grown hBd p1, cell_grown hBd p2, cell_grown hBd p3, cell_grown hBd p4, cell_grown hBd p5, cell_grown hBd p6⟩ | with_reducible exact ⟨cell_grown hbA p0, cell_grown hbA p1, cell_grown hbA p2, cell_grown hbA p3, cell_grown hbA p4, cell_grown hbA p5, cell_grown hbA p6⟩ | with_reducible exact ⟨cell_grown hbB p0, cell_grown hbB p1, cell_grown hbB p2, cell_grown hbB p3, cell_grown hbB p4, cell_grown hbB p5, cell_grown hbB p6⟩ | with_reducible exact ⟨cell_grown hbC p0, cell_grown hbC p1, cell_grown hbC p2, cell_grown hbC p3, cell_grown hbC p4, cell_grown hbC p5, cell_grown hbC p6⟩) (first | (go_at_call 88; first | (with_reducible refine (hR1 _ hbA).mono ?_; rintro e wB ⟨rb, rc, rfl, iR, hrc, hb⟩; replace iL := iL.grown hb; have hbB := below_then hbA hb; clear hb) | (with_reducible refine (hL1 _ hbA).mono ?_; rintro e wB ⟨lb, lc, rfl, iL, hlc, hb⟩; replace iR := iR.grown hb; have hbB := below_then hbA hb; clear hb) | (with_reducible refine (hL1 _ hBd).mono ?_; rintro e wA ⟨lb, lc, rfl, iL, hlc, hb⟩; have hbA := below_then hBd hb; clear hb) | (with_reducible refine (hR1 _ hBd).mono ?_; rintro e wA ⟨rb, rc, rfl, iR, hrc, hb⟩; have hbA := below_then hBd hb; clear hb)) | (go_at_call 78; refine (hrs1 lb lc rb rc _ iL iR hlc hrc hbB).mono ?_; rintro e wC ⟨mb, mk, rfl, hTM, hmb, hb⟩; have hbC := below_then hbB hb; have hmb2 := Nat.le_trans hbB.size hmb; clear hb hmb))
  have q0C := cell_grown hbC q0
  have q1C := cell_grown hbC q1
  have gq := lt_of_cell q0C
  have hBC := below_then hB02 hbC
  have hmbl := hTM.lt
  have HGM := GridP.made wC wC.heap.size N M (fun _ _ => 0) (fun _ => 0) (Nat.le_refl _)
  have hbM := below_alloc wC (.cells (madeCells #[.slice none 0 0] N) 41)
  clear q0 q1 p0 p1 p2 p3 p4 p5 p6 gp hBd hbA hbB hbC iL iR hL1 hR1 hrs1 hB02
  go_wp2_with fail
  go_loopw [6, 7, 26] (fun _ _ jv wr => ∃ (j : Nat) (F : Nat → Nat → Int) (g : Nat → Nat), j ≤ N ∧ jv = .int .i64 j ∧ GridP wr wC.heap.size wC.heap.size N M j F g ∧ Hid (∀ a q, a < j → q < M → F a q = halfM L R a q) ∧ Below wC.heap.size wC wr) (fun _ _ jv _ => N - (intOf jv).toNat)
  case atStart => exact ⟨0, _, _, Nat.zero_le _, rfl, HGM, hid (fun a q h => by omega), hbM⟩
  case round =>
    clear HGM hbM
    obtain ⟨j, F, g, hj, rfl, hG, HF, hB⟩ := hrel
    by_cases hlt : j < N
    · have hlt' : (j : Int) < N := by omega
      have hj0 : (0 : Int) ≤ (j : Int) := by omega
      have hsz := hB.size
      have q0r := cell_grown hB q0C
      have q1r := cell_grown hB q1C
      have gqr := lt_of_cell q0r
      have hGa := hG.grown (below_alloc wr (.cells (madeCells #[.int .i64 0] M) 3))
      have hrow := World.rowIs_made wr (.int .i64 0) M 3
      have hlts : ∀ i, i < j → g i < wr.heap.size := fun i hi => (hG.row i hi).lt
      have holt := hG.outer.lt
      have oc := hGa.outer.cell (i := j) hlt
      simp only [Nat.lt_irrefl, if_false] at oc
      have ofr := hGa.outer.frozen j
      have hpush := hGa.push (G := wr.heap.size) hlt hsz hrow (fun i hi => by have := hlts i hi; omega) (by omega)
      have hbp : Below wC.heap.size wC ((wr.alloc (.cells (madeCells #[.int .i64 0] M) 3)).setCell ⟨wC.heap.size, j, none⟩ (.slice (some ⟨wr.heap.size, 0, none⟩) M M)) := (hB.alloc hsz _).setCell (p := ⟨wC.heap.size, j, none⟩) (Nat.le_refl _) _
      have hcomm : (wr.alloc (.cells (madeCells #[.int .i64 0] M) 3)).setCell ⟨wC.heap.size, j, none⟩ (.slice (some ⟨wr.heap.size, 0, none⟩) M M) = (wr.setCell ⟨wC.heap.size, j, none⟩ (.slice (some ⟨wr.heap.size, 0, none⟩) M M)).alloc (.cells (madeCells #[.int .i64 0] M) 3) := World.setCell_alloc_past (w := wr) _ _ _ _ holt
      rw [hcomm] at hpush hbp
      have HCM := hid hcomm
      clear hG hGa hrow hlts q0r hcomm
      go_upto_region 8 with (fail)
      obtain ⟨W5, hW5⟩ : ∃ X, X = (wr.setCell ⟨wC.heap.size, j, none⟩ (.slice (some ⟨wr.heap.size, 0, none⟩) M M)).alloc (.cells (madeCells #[.int .i64 0] M) 3) := ⟨_, rfl⟩
      rw [← hW5] at hpush hbp ⊢
      clear hW5 oc ofr holt q1r gqr hsz
      obtain ⟨F5, hF5⟩ : ∃ f : Nat → Nat → Int, f = fun i q => if i = j then (0 : Int) else F i q := ⟨_, rfl⟩
      obtain ⟨g5, hg5⟩ : ∃ f : Nat → Nat, f = fun i => if i = j then wr.heap.size else g i := ⟨_, rfl⟩
      rw [← hF5, ← hg5] at hpush
      have HF6 : Hid (∀ a q, a < j → q < M → F5 a q = halfM L R a q) := hid (fun a q h1 h2 => by rw [hF5]; simp only; rw [if_neg (by omega)]; exact HF.out a q h1 h2)
      have c5 := hpush.outer.cell (i := j) hlt
      simp only [Nat.lt_succ_self, if_true] at c5
      have hnr : (g5 j : Nat) = wr.heap.size := by rw [hg5]; simp
      have hol := hpush.outer.lt
      clear hF5 hg5 HF
      go_wp2_with fail
      go_loopw [7, 41] (fun _ kv wx => ∃ (q : Nat) (F' : Nat → Nat → Int), q ≤ M ∧ kv = .int .i64 q ∧ GridP wx wC.heap.size wC.heap.size N M (j + 1) F' g5 ∧ Hid (∀ a p, (a < j ∨ a = j ∧ p < q) → p < M → F' a p = halfM L R a p) ∧ Below wC.heap.size wC wx) (fun _ kv _ => M - (intOf kv).toNat)
      case atStart => exact ⟨0, F5, Nat.zero_le _, rfl, hpush, hid (fun a p h1 h2 => by rcases h1 with h | ⟨_, h⟩; exact HF6.out a p h h2; omega), hbp⟩
      case round =>
        clear c5 hol hpush hbp HF6 hnr
        obtain ⟨q, F', hq, rfl, hG, HF, hB⟩ := hrel
        by_cases hlq : q < M
        · have hlq' : (q : Int) < M := by omega
          have hq0 : (0 : Int) ≤ (q : Int) := by omega
          have hNn := HN.out
          have hMm := HM.out
          have q0r := cell_grown hB q0C
          have q1r := cell_grown hB q1C
          have gqr := lt_of_cell q0r
          have hTr := hTM.kept (grown_none hB) (by simp)
          have c5 := hG.outer.cell (i := j) hlt
          simp only [Nat.lt_succ_self, if_true] at c5
          have hol := hG.outer.lt
          have oc := (hG.row j (by omega)).cell (i := q) hlq
          have ofr := (hG.row j (by omega)).frozen q
          have hrl := (hG.row j (by omega)).lt
          obtain ⟨e, he⟩ : ∃ e, n - j = e := ⟨_, rfl⟩
          obtain ⟨f, hf⟩ : ∃ f, m - q = f := ⟨_, rfl⟩
          have hlook := hTr.look (a := e) (b := f) (mem_places (by omega) (by omega))
          have hval : restM L.reverse R.reverse e f = halfM L R j q := by rw [← he, ← hf]; exact HHA.out j q
          rw [hval] at hlook
          have hve := hval
          generalize hz : halfM L R j q = z at hlook
          rw [hz] at hve
          have HVE := hid hve
          have hMb : M ≤ 21 := by omega
          have hq20 : q ≤ 20 := by omega
          have heb : e ≤ n := by omega
          have hfb : f ≤ m := by omega
          have HZ := hid hz
          clear hve
          have w1 : IntKind.i64.wrap ((n : Int) - j) = (e : Int) := by rw [IntKind.wrap_i64]; omega
          have w2 : IntKind.i64.wrap ((m : Int) - q) = (f : Int) := by rw [IntKind.wrap_i64]; omega
          clear hNn hMm he hf hval hz
          go_wp2_with fail
          have hDr : Below wr.heap.size wr wr.drew := (Below.refl _ wr).drew
          have hTd := hTr.kept (grown_none hDr) (by simp)
          have hGd := hG.grown hDr
          have hBd := hB.drew
          have ocd : wr.drew.cell? ⟨g5 j, q, none⟩ = _ := cell_grown hDr oc
          have frd : wr.drew.frozen? ⟨g5 j, q, none⟩ = false := (hGd.row j (by omega)).frozen q
          have grd : g5 j < wr.drew.heap.size := hrl
          have c5d := cell_grown hDr c5
          have q0d := cell_grown hDr q0r
          have q1d := cell_grown hDr q1r
          have lkd := hTd.look (a := e) (b := f) (mem_places heb hfb)
          rw [HVE.out] at lkd
          have hgb : wC.heap.size ≤ g5 j := hG.low j (by omega)
          have c5s : (wr.setCell ⟨g5 j, q, none⟩ (.int .i64 z)).drew.cell? ⟨wC.heap.size, j, none⟩ = some (.slice (some ⟨g5 j, 0, none⟩) M M) := (World.cell?_setCell_other _ _ _ _ (by have := hG.apart j (by omega); simp <;> omega) : (wr.setCell ⟨g5 j, q, none⟩ (.int .i64 z)).cell? _ = wr.cell? _).trans c5
          have q0s : (wr.setCell ⟨g5 j, q, none⟩ (.int .i64 z)).drew.cell? ⟨tb, 0, none⟩ = some (.int .i64 (n : Int)) := (World.cell?_setCell_other _ _ _ _ (by simp <;> omega) : (wr.setCell ⟨g5 j, q, none⟩ (.int .i64 z)).cell? _ = wr.cell? _).trans q0r
          have q1s : (wr.setCell ⟨g5 j, q, none⟩ (.int .i64 z)).drew.cell? ⟨tb, 1, none⟩ = some (.int .i64 (m : Int)) := (World.cell?_setCell_other _ _ _ _ (by simp <;> omega) : (wr.setCell ⟨g5 j, q, none⟩ (.int .i64 z)).cell? _ = wr.cell? _).trans q1r
          have lks := ((hTr.setCell (a := ⟨g5 j, q, none⟩) (by simp <;> omega) (.int .i64 z)).kept (grown_none ((Below.refl _ (wr.setCell ⟨g5 j, q, none⟩ (.int .i64 z))).drew)) (by simp)).look (a := e) (b := f) (mem_places heb hfb)
          rw [HVE.out] at lks
          clear hlook
          go_region_held3 (fun w' : World => w'.cell? ⟨wC.heap.size, j, none⟩ = some (.slice (some ⟨g5 j, 0, none⟩) M M) ∧ w'.cell? ⟨tb, 0, none⟩ = some (.int .i64 (n : Int)) ∧ w'.cell? ⟨tb, 1, none⟩ = some (.int .i64 (m : Int)) ∧ (Instr.lookup 146 (.map (some mb)) (.agg #[.int .i64 (e : Int), .int .i64 (f : Int)]) false).run Try.prog w' = .ok (.int .i64 z) w') (first | with_reducible exact ⟨c5d, q0d, q1d, lkd⟩ | with_reducible exact ⟨c5s, q0s, q1s, lks⟩) (first | fail)
          go_wp2_with fail
          go_roundw
          case rel => exact ⟨q + 1, _, by omega, by go_num, (hG.put (i := j) (by omega) q z).grown ((Below.refl _ _).drew), hid (fun a p h1 h2 => by
            by_cases e : a = j ∧ p = q
            · rw [if_pos e, ← HZ.out, e.1, e.2]
            · rw [if_neg e]; exact HF.out a p (by omega) h2), (hB.setCell (p := ⟨g5 j, q, none⟩) (hG.low j (by omega)) _).drew⟩
          case measure => simp [intOf]; omega
        · have hqM : q = M := by omega
          subst hqM
          have hNb : N ≤ 21 := by have := HN.out; omega
          go_wp2_with fail
          go_roundw
          case rel => exact ⟨j + 1, F', g5, by omega, by go_num, hG, hid (fun a p h1 h2 => HF.out a p (by omega) h2), hB⟩
          case measure => simp [intOf]; omega
    · have hjn : j = N := by omega
      subst hjn
      have hNn := HN.out
      go_wp2_with fail
      go_ret
      exact ⟨some ⟨wC.heap.size, 0, none⟩, j, g, rfl, (hG.congr (fun a q h1 h2 => HF.out a q h1 h2)).whole (by omega) hBC.size, hBC.trans (hB.mono hBC.size)⟩

end Go.Proofs.Ytohahlnhbppnhaa
