/- Contracts of the reference's end and Done, of the law's Reals. Contract of the reference's Done. Contracts of realistic, and of the reference's Reals. -/
import Derived.Test.YtgapbaelifcifaaGC
import Derived.Test.YtgapbaelifcifaaCL
import Derived.Deep.RegionHeld3
namespace Go.Proofs.Ytgapbaelifcifaa
open Go.RowKit

theorem Try.info81 : (Try.prog.info? 81).map (fun i => (i.zero, i.size, i.bytes)) = some (some (.agg #[.int .i64 0, .int .i64 0]), 2, 16) := by kernel_rfl

theorem ownsRow_below {w w' : World} {base : Nat} {e : TypeId} {size : Nat} {v : Value} {n : Nat} {xs : List Value} (h : w.ownsRow base e size v n xs) (hb : Below w.heap.size w w') : w'.ownsRow base e size v n xs := by
  refine ⟨h.1, ?_⟩
  rcases h.2 with h2 | ⟨g, cap, cur, hv, hbg, hg, hrest⟩
  · exact .inl h2
  · have hlt : g < w.heap.size := by
      rcases Nat.lt_or_ge g w.heap.size with h | h
      · exact h
      · rw [Array.getElem?_eq_none h] at hg; simp at hg
    exact .inr ⟨g, cap, cur, hv, hbg, by rw [hb.block g hlt]; exact hg, hrest⟩

def endM (x : Int × Int) (slow delay : Int) : Int := x.2 + (x.2 - x.1) * slow + delay

set_option maxHeartbeats 400000 in
theorem end_any (f t slow delay : Int) (w : World) (h1 : 0 ≤ f ∧ f < t ∧ t ≤ 36000) (h2 : 0 ≤ slow ∧ slow ≤ 20) (h3 : 0 ≤ delay ∧ delay ≤ 36000) :
    Calls Try.prog 66 #[.agg #[.int .i64 f, .int .i64 t], .int .i64 slow, .int .i64 delay] w fun e w' => e = .returned (.int .i64 (endM (f, t) slow delay)) ∧ Below w.heap.size w w' := by
  have hm := mul_bd (x := t - f) (y := slow) (by omega) (by omega) h2.1 h2.2
  go_enter Try.func66, Try.ntmps66
  go_wp2
  go_ret
  exact ⟨rfl, (Below.refl _ _).alloc (Nat.le_refl _) _⟩

set_option maxRecDepth 100000 in
set_option maxHeartbeats 4000000 in
theorem realsL_any (R : List (Int × Int)) (n cap : Nat) (a : Option Addr) (w : World) (hL : R.length = n) (hn : n ≤ 60) (hS : Spans w a R) :
    Calls Try.prog 40 #[.slice a n cap] w fun e w' => ∃ ra rc, e = .returned (.slice ra n rc) ∧ Spans w' ra R ∧ Below w.heap.size w w' := by
  have HL := hid hL
  clear hL
  obtain ⟨i0, hi, hz0, hz1, hz2⟩ := info_parts Try.info81
  go_enter Try.func40, Try.ntmps40
  go_wp2_with fail
  go_loopw [3, 4] (fun v i wr => ∃ k : Nat, k ≤ n ∧ i = .int .i64 k ∧ wr.ownsRow w.heap.size 81 2 v k (flat2 (R.take k)) ∧ Below w.heap.size w wr) (fun _ i _ => n - (intOf i).toNat)
  case atStart => exact ⟨0, Nat.zero_le _, rfl, World.ownsRow_nil _ _ _ _, Below.refl _ _⟩
  case round =>
    obtain ⟨k, hk, rfl, hown, hB⟩ := hrel
    have hzr := hB.size
    by_cases hlt : k < n
    · obtain ⟨b, off, rfl, e1, e2⟩ := hS k (by rw [HL.out]; exact hlt)
      have gb0 := lt_of_cell e1
      have f1 := cell_grown hB e1
      have f2 := cell_grown hB e2
      have htk : R.take (k + 1) = R.take k ++ [R.getD k (0, 0)] := by rw [List.take_add_one]; simp [List.getElem?_eq_getElem (show k < R.length by rw [HL.out]; exact hlt)]
      obtain ⟨x, hx⟩ : ∃ x, R.getD k (0, 0) = x := ⟨_, rfl⟩
      rw [hx] at e1 e2 f1 f2 htk
      obtain ⟨x1, x2⟩ := x
      simp only at e1 e2 f1 f2
      have HTK := hid htk
      clear hx htk
      have hkk : (k : Int) < n := by omega
      have gb := lt_of_cell f1
      go_wp2_with fail
      have hown0 : wr.drew.ownsRow w.heap.size 81 2 u3 k (flat2 (R.take k)) := hown
      go_region_law (refine step_append_lies _ rfl _ _ 68 rfl w.heap.size 81 i0 (.agg #[.int .i64 0, .int .i64 0]) 2 16 Try.underlying68 hi hz0 hz1 hz2 rfl (by decide) _ k _ rfl (hown.alloc (.cells #[.int .i64 x1, .int .i64 x2] 81)) ⟨wr.heap.size, 0, none⟩ 1 1 [.int .i64 x1, .int .i64 x2] rfl rfl (cell_two_new _ _ _ _) (fun x hx => by simp at hx; rcases hx with rfl | rfl <;> rfl) (by omega) (by unfold maxLen; omega) (by omega) (by simp; omega) (wr.heap.size + 1) (by simp) ?_; intro g cp w3 hown' hgrow hat hlt'; have hb3 := below_of_grown hB.drew hown0 hgrow hzr; clear hgrow hat)
      all_goals
        go_wp2
        exact ⟨⟨k + 1, by omega, by go_num, by rw [HTK.out, flat2_append]; exact hown', hb3⟩, by simp [intOf]; omega⟩
    · have hkn : k = n := by omega
      subst hkn
      have hLk : R.take k = R := List.take_of_length_le (by rw [HL.out]; omega)
      rw [hLk] at hown
      have H := HL.out
      rw [← H] at hown
      obtain ⟨va, vc, hv⟩ := owns_shape hown
      rw [H] at hv
      subst hv
      have HO := hid hown
      clear hown hLk H
      go_wp2
      go_ret
      refine ⟨va, vc, rfl, ?_, hB⟩
      have hown := HO.out
      have H := HL.out
      rw [← H] at hown
      exact spans_of_owns hown

end Go.Proofs.Ytgapbaelifcifaa

namespace Go.Proofs.Ytgapbaelifcifaa
open Go.RowKit

theorem cell_one_new (w : World) (x : Value) (t : TypeId) (b : Nat) (hb : b = w.heap.size) : ∀ j u, [x][j]? = some u → (w.alloc (.cells #[x] t)).cell? ((⟨b, 0, none⟩ : Addr).add j) = some u := by
  subst hb
  intro j u hj
  match j, hj with
  | 0, hj => simp at hj; subst hj; simp [Addr.add]
  | (j + 1), hj => simp at hj

/-- When each take is done. -/
def endsM (T R : List (Int × Int)) : List Int := (List.range T.length).map fun i => endM (T.getD i (0, 0)) (R.getD i (0, 0)).1 (R.getD i (0, 0)).2

theorem endsM_length (T R : List (Int × Int)) : (endsM T R).length = T.length := by simp [endsM]

theorem endsM_get {T R : List (Int × Int)} {k : Nat} (hk : k < T.length) : (endsM T R).getD k 0 = endM (T.getD k (0, 0)) (R.getD k (0, 0)).1 (R.getD k (0, 0)).2 := by
  unfold endsM
  rw [List.getD_eq_getElem?_getD, List.getElem?_map, List.getElem?_range hk]
  rfl

theorem take_getD {α : Type} {d : α} {X : List α} {k : Nat} (hk : k < X.length) : X.take (k + 1) = X.take k ++ [X.getD k d] := by
  rw [List.take_add_one]
  simp [List.getElem?_eq_getElem hk]

set_option maxRecDepth 100000 in
set_option maxHeartbeats 4000000 in
theorem doneR_any (T R : List (Int × Int)) (n tc rc : Nat) (ta ra : Option Addr) (w : World) (hT : T.length = n) (hR : R.length = n) (hn : n ≤ 60) (hST : Spans w ta T) (hSR : Spans w ra R)
    (bT : ∀ k, k < n → 0 ≤ (T.getD k (0, 0)).1 ∧ (T.getD k (0, 0)).1 < (T.getD k (0, 0)).2 ∧ (T.getD k (0, 0)).2 ≤ 36000) (bR : ∀ k, k < n → (0 ≤ (R.getD k (0, 0)).1 ∧ (R.getD k (0, 0)).1 ≤ 20) ∧ 0 ≤ (R.getD k (0, 0)).2 ∧ (R.getD k (0, 0)).2 ≤ 36000) :
    Calls Try.prog 42 #[.slice ta n tc, .slice ra n rc] w fun e w' => ∃ va vc, e = .returned (.slice va n vc) ∧ Ints w' va (endsM T R) ∧ Below w.heap.size w w' := by
  have HT := hid hT
  have HR := hid hR
  have HBT := hid bT
  have HBR := hid bR
  obtain ⟨E, hE⟩ : ∃ E, endsM T R = E := ⟨_, rfl⟩
  have HE := hid hE
  have HEL : Hid (E.length = n) := hid (by rw [← hE, endsM_length, hT])
  rw [hE]
  clear hT hR bT bR hE
  obtain ⟨i3, hi3, hi3a, hi3b, hi3c⟩ := info_parts Try.info3
  go_enter Try.func42, Try.ntmps42
  go_wp2_with fail
  go_loopw [5, 6] (fun v i wr => ∃ k : Nat, k ≤ n ∧ i = .int .i64 k ∧ wr.ownsRow w.heap.size 3 1 v k (flat1 (E.take k)) ∧ Below w.heap.size w wr) (fun _ i _ => n - (intOf i).toNat)
  case atStart => exact ⟨0, Nat.zero_le _, rfl, World.ownsRow_nil _ _ _ _, Below.refl _ _⟩
  case round =>
    obtain ⟨k, hk, rfl, hown, hB⟩ := hrel
    have hzr := hB.size
    by_cases hlt : k < n
    · obtain ⟨bt, ot, rfl, e1, e2⟩ := hST k (by rw [HT.out]; exact hlt)
      obtain ⟨br, orr, rfl, e3, e4⟩ := hSR k (by rw [HR.out]; exact hlt)
      have hbT := HBT.out k hlt
      have hbR := HBR.out k hlt
      have hval : Hid (E.take (k + 1) = E.take k ++ [endM (T.getD k (0, 0)) (R.getD k (0, 0)).1 (R.getD k (0, 0)).2]) := hid (by rw [take_getD (d := 0) (by rw [HEL.out]; exact hlt), ← HE.out, endsM_get (by rw [HT.out]; exact hlt)])
      obtain ⟨x, hx⟩ : ∃ x, T.getD k (0, 0) = x := ⟨_, rfl⟩
      obtain ⟨y, hy⟩ : ∃ y, R.getD k (0, 0) = y := ⟨_, rfl⟩
      rw [hx] at e1 e2 hbT hval
      rw [hy] at e3 e4 hbR hval
      clear hx hy
      obtain ⟨f, t⟩ := x
      obtain ⟨s, d⟩ := y
      simp only at e1 e2 e3 e4 hbT hbR
      obtain ⟨z, hz⟩ : ∃ z, endM (f, t) s d = z := ⟨_, rfl⟩
      simp only at hval
      rw [hz] at hval
      have HZ := hid hz
      clear hz
      have y0 := cell_grown hB e1
      have y1 := cell_grown hB e2
      have y2 := cell_grown hB e3
      have y3 := cell_grown hB e4
      have hkk : (k : Int) < n := by omega
      have gb := lt_of_cell y0
      have gb2 := lt_of_cell y2
      have hBd : Below wr.heap.size wr wr.drew := (Below.refl _ _).drew
      go_wp2_with fail
      go_region_held3 (fun w' : World => w'.cell? ⟨bt, ot + k * 2, none⟩ = some (.int .i64 f) ∧ w'.cell? ⟨bt, ot + k * 2 + 1, none⟩ = some (.int .i64 t) ∧ w'.cell? ⟨br, orr + k * 2, none⟩ = some (.int .i64 s) ∧ w'.cell? ⟨br, orr + k * 2 + 1, none⟩ = some (.int .i64 d)) (first | exact ⟨y0, y1, y2, y3⟩ | exact ⟨cell_grown (Below.alloc (Below.refl _ _) (Nat.le_refl _) _) y0, cell_grown (Below.alloc (Below.refl _ _) (Nat.le_refl _) _) y1, cell_grown (Below.alloc (Below.refl _ _) (Nat.le_refl _) _) y2, cell_grown (Below.alloc (Below.refl _ _) (Nat.le_refl _) _) y3⟩) (first
        | (go_at_call 66; refine (end_any f t s d _ (by omega) (by omega) (by omega)).mono ?_; rintro e w2 ⟨rfl, hb2⟩; rw [HZ.out]; have hB2 := hB.trans ((hBd.trans (hb2.mono (Nat.le_refl _))).mono hzr); have hown2 := ownsRow_below (ownsRow_below hown hBd) hb2; replace y0 := cell_grown hB2 e1; replace y1 := cell_grown hB2 e2; replace y2 := cell_grown hB2 e3; replace y3 := cell_grown hB2 e4)
        | (refine step_append_lies _ rfl _ _ 53 rfl w.heap.size 3 i3 (.int .i64 0) 1 8 Try.underlying53 hi3 hi3a hi3b hi3c rfl (by decide) _ k _ rfl (hown2.alloc _) ⟨w2.heap.size, 0, none⟩ 1 1 [.int .i64 z] rfl rfl (cell_one_new _ _ _ _ rfl) (fun x hx => by simp at hx; subst hx; rfl) (by omega) (by unfold maxLen; omega) (by omega) (by have := hB2.size; simp; omega) (w2.heap.size + 1) (by simp) ?_; intro g cp w3 hown' hgrow hat hlt'; have hb3 := below_of_grown hB2 hown2 hgrow hB2.size; replace y0 := cell_grown hb3 e1; replace y1 := cell_grown hb3 e2; replace y2 := cell_grown hb3 e3; replace y3 := cell_grown hb3 e4; clear hgrow hat))
      go_wp2
      go_roundw
      case rel => exact ⟨k + 1, by omega, by go_num, by rw [hval.out]; simpa [flat1] using hown', hb3⟩
      case measure => simp [intOf]; omega
    · have hkn : k = n := by omega
      subst hkn
      have hLk : E.take k = E := List.take_of_length_le (by rw [HEL.out]; omega)
      rw [hLk] at hown
      obtain ⟨va, vc, hv⟩ := owns_shape hown
      subst hv
      have HO := hid (ints_of_owns1 HEL.out hown)
      clear hown hLk
      go_wp2
      go_ret
      exact ⟨va, vc, rfl, HO.out, hB⟩

end Go.Proofs.Ytgapbaelifcifaa

namespace Go.Proofs.Ytgapbaelifcifaa
open Go.RowKit

def realOk (C : List (Int × Int × Int)) (Z : List Int) (delay : Int) (i : Nat) (x : Int × Int) : Bool :=
  inB x.1 (C.getD (Z.getD i 0).toNat (0, 0, 0)).1 (C.getD (Z.getD i 0).toNat (0, 0, 0)).2.1 && inB x.2 0 delay

def realsM (C : List (Int × Int × Int)) (Z : List Int) (delay : Int) (R : List (Int × Int)) : Bool :=
  decide (R.length = Z.length) && (List.range R.length).all fun i => realOk C Z delay i (R.getD i (0, 0))

theorem reals_no {C : List (Int × Int × Int)} {Z : List Int} {delay : Int} {R : List (Int × Int)} {k : Nat} (hk : k < R.length) (h : realOk C Z delay k (R.getD k (0, 0)) = false) : ((List.range R.length).all fun i => realOk C Z delay i (R.getD i (0, 0))) = false := by
  rw [List.all_eq_false]
  exact ⟨k, by simpa using hk, by rw [h]; simp⟩

theorem reals_yes {C : List (Int × Int × Int)} {Z : List Int} {delay : Int} {R : List (Int × Int)} (h : ∀ j, j < R.length → realOk C Z delay j (R.getD j (0, 0)) = true) : ((List.range R.length).all fun i => realOk C Z delay i (R.getD i (0, 0))) = true := by
  rw [List.all_eq_true]
  exact fun j hj => h j (by simpa using hj)

theorem reals_at {C : List (Int × Int × Int)} {Z : List Int} {delay : Int} {R : List (Int × Int)} (h : realsM C Z delay R = true) : R.length = Z.length ∧ ∀ j, j < R.length → realOk C Z delay j (R.getD j (0, 0)) = true := by
  unfold realsM at h
  rw [Bool.and_eq_true, decide_eq_true_eq, List.all_eq_true] at h
  exact ⟨h.1, fun j hj => h.2 j (by simpa using hj)⟩

set_option maxRecDepth 100000 in
set_option maxHeartbeats 2000000 in
theorem re1_any (C : List (Int × Int × Int)) (Z : List Int) (i : Nat) (slow d delay : Int) (bs br cn cc zn zc : Nat) (ca za : Option Addr) (w : World)
    (hC : C.length = cn) (_ : cn ≤ 5) (hCr : Crew w ca C) (hZ : Z.length = zn) (_ : zn ≤ 1000000) (hI : Ints w za Z) (hi : i < zn) (hr : 0 ≤ Z.getD i 0 ∧ Z.getD i 0 < cn)
    (h4 : w.cell? ⟨bs, 4, none⟩ = some (.slice ca cn cc)) (h6 : w.cell? ⟨bs, 6, none⟩ = some (.int .i64 delay)) (h0 : w.cell? ⟨br, 0, none⟩ = some (.slice za zn zc)) :
    Calls Try.prog 81 #[.int .i64 (i : Int), .agg #[.int .i64 slow, .int .i64 d], .pointer (some ⟨bs, 0, none⟩), .pointer (some ⟨br, 0, none⟩)] w fun e w' => e = .returned (.bool (realOk C Z delay i (slow, d))) ∧ Below w.heap.size w w' := by
  obtain ⟨bz, oz, rfl, c1⟩ := hI i (by rw [hZ]; exact hi)
  obtain ⟨r, hr'⟩ : ∃ r : Nat, Z.getD i 0 = (r : Int) := ⟨(Z.getD i 0).toNat, by omega⟩
  have hV : realOk C Z delay i (slow, d) = (inB slow (C.getD r (0, 0, 0)).1 (C.getD r (0, 0, 0)).2.1 && inB d 0 delay) := by
    unfold realOk
    rw [hr', Int.toNat_natCast]
  rw [hr'] at hr c1
  have hrc : r < cn := by omega
  obtain ⟨bc, oc, rfl, d1, d2, d3⟩ := hCr r (by rw [hC]; exact hrc)
  rw [hV]
  obtain ⟨x, hx⟩ : ∃ x, C.getD r (0, 0, 0) = x := ⟨_, rfl⟩
  rw [hx] at d1 d2 d3 ⊢
  obtain ⟨lo, h2, rest⟩ := x
  simp only at d1 d2 d3 ⊢
  clear hV hx hr' hCr hI hC hZ
  have g1 := lt_of_cell h4
  have g2 := lt_of_cell h0
  have g3 := lt_of_cell c1
  have g4 := lt_of_cell d1
  have hii : (i : Int) < zn := by omega
  have hrr : (r : Int) < cn := by omega
  go_enter Try.func81, Try.ntmps81
  go_wp2_with fail
  obtain ⟨W0, hW0⟩ : ∃ W0, W0 = w.alloc (.cells #[.int .i64 slow, .int .i64 d] 81) := ⟨_, rfl⟩
  have hB0 : Below w.heap.size w W0 := by rw [hW0]; exact (Below.refl _ w).alloc (Nat.le_refl _) _
  have q0 : W0.cell? ⟨w.heap.size, 0, none⟩ = some (.int .i64 slow) := by rw [hW0]; simp
  have q1 : W0.cell? ⟨w.heap.size, 1, none⟩ = some (.int .i64 d) := by rw [hW0]; simp
  have z0 : W0.heap.size = w.heap.size + 1 := by rw [hW0]; simp
  rw [← hW0]
  clear hW0
  replace h4 := cell_grown hB0 h4
  replace h6 := cell_grown hB0 h6
  replace h0 := cell_grown hB0 h0
  replace c1 := cell_grown hB0 c1
  replace d1 := cell_grown hB0 d1
  replace d2 := cell_grown hB0 d2
  go_region_held3 (fun w' : World => w'.cell? ⟨bs, 4, none⟩ = some (.slice (some ⟨bc, oc, none⟩) cn cc) ∧ w'.cell? ⟨br, 0, none⟩ = some (.slice (some ⟨bz, oz, none⟩) zn zc) ∧ w'.cell? ⟨bz, oz + i, none⟩ = some (.int .i64 (r : Int)) ∧ w'.cell? ⟨bc, oc + r * 3, none⟩ = some (.int .i64 lo) ∧ w'.cell? ⟨bc, oc + r * 3 + 1, none⟩ = some (.int .i64 h2)) (first | exact ⟨h4, h0, c1, d1, d2⟩ | exact ⟨cell_grown (Below.alloc (Below.refl _ _) (Nat.le_refl _) _) h4, cell_grown (Below.alloc (Below.refl _ _) (Nat.le_refl _) _) h0, cell_grown (Below.alloc (Below.refl _ _) (Nat.le_refl _) _) c1, cell_grown (Below.alloc (Below.refl _ _) (Nat.le_refl _) _) d1, cell_grown (Below.alloc (Below.refl _ _) (Nat.le_refl _) _) d2⟩ | exact ⟨cell_grown (Below.setCell (Below.setCell (Below.alloc (Below.refl _ _) (Nat.le_refl _) _) (by simp) _) (by simp) _) h4, cell_grown (Below.setCell (Below.setCell (Below.alloc (Below.refl _ _) (Nat.le_refl _) _) (by simp) _) (by simp) _) h0, cell_grown (Below.setCell (Below.setCell (Below.alloc (Below.refl _ _) (Nat.le_refl _) _) (by simp) _) (by simp) _) c1, cell_grown (Below.setCell (Below.setCell (Below.alloc (Below.refl _ _) (Nat.le_refl _) _) (by simp) _) (by simp) _) d1, cell_grown (Below.setCell (Below.setCell (Below.alloc (Below.refl _ _) (Nat.le_refl _) _) (by simp) _) (by simp) _) d2⟩) (fail)
  obtain ⟨W1, hW1⟩ : ∃ W1, W1 = (W0.alloc (.cells #[.int .i64 lo, .int .i64 h2] 100)).drew := ⟨_, rfl⟩
  have hB1 : Below w.heap.size w W1 := by rw [hW1]; exact (hB0.alloc (by omega) _).drew
  have n0 : W1.cell? ⟨w.heap.size + 1, 0, none⟩ = some (.int .i64 lo) := by rw [hW1, ← z0]; simp
  have n1 : W1.cell? ⟨w.heap.size + 1, 1, none⟩ = some (.int .i64 h2) := by rw [hW1, ← z0]; simp
  have hB01 : Below W0.heap.size W0 W1 := by rw [hW1]; exact ((Below.refl _ _).alloc (Nat.le_refl _) _).drew
  replace q0 := cell_grown hB01 q0
  replace q1 := cell_grown hB01 q1
  replace h6 := cell_grown hB01 h6
  rw [← hW1]
  clear hW1 h4 h0 c1 d1 d2 hB01
  cases b1 : inB slow lo h2 <;> cases b2 : inB d 0 delay
  all_goals
    go_wp2_with (go_at_call 53; refine (within_any _ _ _ _).mono ?_; rintro e w' ⟨rfl, rfl⟩; first | rw [b1] | rw [b2])
    go_ret
    exact ⟨by first | (rw [b1, b2]; rfl) | (rw [b1]; rfl), hB1⟩

set_option maxHeartbeats 1000000 in
theorem every80 (C : List (Int × Int × Int)) (Z : List Int) (R : List (Int × Int)) (delay : Int) (bs br cn cc zn zc n cap : Nat) (ca za a : Option Addr) (w : World)
    (hC : C.length = cn) (hcn : cn ≤ 5) (hCr : Crew w ca C) (hZ : Z.length = zn) (hzn : zn ≤ 1000000) (hI : Ints w za Z) (hr : ∀ i, i < zn → 0 ≤ Z.getD i 0 ∧ Z.getD i 0 < cn)
    (h4 : w.cell? ⟨bs, 4, none⟩ = some (.slice ca cn cc)) (h6 : w.cell? ⟨bs, 6, none⟩ = some (.int .i64 delay)) (h0 : w.cell? ⟨br, 0, none⟩ = some (.slice za zn zc))
    (hL : R.length = n) (hnz : n = zn) (hS : Spans w a R) :
    Calls Try.prog 80 #[.slice a n cap, .func (.func 81) #[] #[.pointer (some ⟨bs, 0, none⟩), .pointer (some ⟨br, 0, none⟩)]] w fun e w' => e = .returned (.bool ((List.range R.length).all fun i => realOk C Z delay i (R.getD i (0, 0)))) ∧ Below w.heap.size w w' := by
  subst hnz
  have HL := hid hL
  have HC := hid hC
  have HZ := hid hZ
  have HR := hid hr
  clear hL hC hZ hr
  go_enter Try.func80, Try.ntmps80
  go_wp2
  go_loopw [9] (fun i wr => ∃ k : Nat, k ≤ n ∧ i = .int .i64 k ∧ Hid (∀ j, j < k → realOk C Z delay j (R.getD j (0, 0)) = true) ∧ Below w.heap.size w wr) (fun i _ => n - (intOf i).toNat)
  case atStart => exact ⟨0, Nat.zero_le _, rfl, fun _ h => by omega, Below.refl _ _⟩
  case round =>
    obtain ⟨k, hk, rfl, hj, hB⟩ := hrel
    have hzr := hB.size
    by_cases hlt : k < n
    · obtain ⟨b, off, rfl, e1, e2⟩ := hS k (by rw [HL.out]; exact hlt)
      obtain ⟨x, hx⟩ : ∃ x, R.getD k (0, 0) = x := ⟨_, rfl⟩
      rw [hx] at e1 e2
      obtain ⟨x1, x2⟩ := x
      simp only at e1 e2
      have HX := hid hx
      clear hx
      have f1 := cell_grown hB e1
      have f2 := cell_grown hB e2
      have gb := lt_of_cell f1
      have hBa : ∀ o, Below w.heap.size w (wr.alloc o) := fun o => hB.alloc hzr o
      go_wp2_with fail
      refine (re1_any C Z k x1 x2 delay bs br cn cc n zc ca za _ HC.out hcn (hCr.grown (hBa _)) HZ.out hzn (hI.grown (hBa _)) (by omega) (HR.out k (by omega)) (cell_grown (hBa _) h4) (cell_grown (hBa _) h6) (cell_grown (hBa _) h0)).mono ?_
      rintro e w' ⟨rfl, hb⟩
      have hB2 : Below w.heap.size w w' := (hBa _).trans (hb.mono (by simp; omega))
      clear hb hBa
      cases hp : realOk C Z delay k (x1, x2)
      · have HP := hid hp
        clear hp
        go_wp2
        go_ret
        exact ⟨by rw [reals_no (by rw [HL.out]; exact hlt) (by rw [HX.out]; exact HP.out)]; rfl, hB2⟩
      · have HP := hid hp
        clear hp
        go_wp2
        go_roundw
        case rel => exact ⟨k + 1, by omega, by go_num, upto hj.out (by rw [HX.out]; exact HP.out), hB2⟩
        case measure => simp [intOf]; omega
    · go_wp2
      go_ret
      exact ⟨by rw [reals_yes (fun j h => hj.out j (by rw [HL.out] at h; omega))]; rfl, hB⟩

set_option maxHeartbeats 1000000 in
theorem realistic_any (C : List (Int × Int × Int)) (Z : List Int) (R : List (Int × Int)) (len long short due delay : Int) (pa ca ta za a : Option Addr) (pn pc cn cc tn tc zn zc n cap : Nat) (w : World)
    (hC : C.length = cn) (hcn : cn ≤ 5) (hCr : Crew w ca C) (hZ : Z.length = zn) (hzn : zn ≤ 1000000) (hI : Ints w za Z) (hr : ∀ i, i < zn → 0 ≤ Z.getD i 0 ∧ Z.getD i 0 < cn) (hL : R.length = n) (_ : n ≤ 1000000) (hS : Spans w a R) :
    Calls Try.prog 64 #[.agg #[.int .i64 len, .slice pa pn pc, .int .i64 long, .int .i64 short, .slice ca cn cc, .int .i64 due, .int .i64 delay, .slice ta tn tc], .slice za zn zc, .slice a n cap] w fun e w' =>
      e = .returned (.bool (realsM C Z delay R)) ∧ Below w.heap.size w w' := by
  obtain ⟨z, hz⟩ : ∃ z, realsM C Z delay R = z := ⟨_, rfl⟩
  have HV : Hid (z = (decide (n = zn) && (List.range R.length).all fun i => realOk C Z delay i (R.getD i (0, 0)))) := hid (by rw [← hz, ← hL, ← hZ]; rfl)
  rw [hz]
  have HL := hid hL
  have HC := hid hC
  have HZ := hid hZ
  have HR := hid hr
  clear hL hC hZ hr hz
  have hB : ∀ o o', Below w.heap.size w ((w.alloc o).alloc o') := fun o o' => ((Below.refl _ w).alloc (Nat.le_refl _) o).alloc (by simp) o'
  by_cases hnt : n = zn
  · have hni : (n : Int) = (zn : Int) := by omega
    have HNT : Hid (n = zn) := hid hnt
    clear hnt
    go_enter Try.func64, Try.ntmps64
    go_wp2_with (go_at_call 80; refine (every80 C Z R delay w.heap.size (w.heap.size + 1) cn cc zn zc n cap ca za a _ HC.out hcn (hCr.grown (hB _ _)) HZ.out hzn (hI.grown (hB _ _)) HR.out (by simp) (by simp) (by simp) HL.out HNT.out (hS.grown (hB _ _))).mono ?_; rintro e w' ⟨rfl, hb⟩)
    go_ret
    exact ⟨by rw [HV.out, decide_eq_true HNT.out]; simp, (hB _ _).trans (hb.mono (by simp; omega))⟩
  · have hni : ((n : Int) == (zn : Int)) = false := by simp; omega
    have HNT : Hid (decide (n = zn) = false) := hid (decide_eq_false hnt)
    clear hnt
    go_enter Try.func64, Try.ntmps64
    go_wp2
    go_ret
    exact ⟨by rw [HV.out, HNT.out]; rfl, hB _ _⟩

end Go.Proofs.Ytgapbaelifcifaa
