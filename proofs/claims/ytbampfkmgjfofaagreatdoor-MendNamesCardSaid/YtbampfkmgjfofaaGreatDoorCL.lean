/- Mend, the laws: parts of the decisions by the reference: Becomes, Meet, sooner. -/
import Derived.Test.YtbampfkmgjfofaaGreatDoorCK
import Derived.Deep.QuietTactic
import Derived.BigQuiet
namespace Go.Proofs.YtbampfkmgjfofaaGreatDoor
open Go.RowKit

theorem keepsM_len {S : List (Int × Int × Int)} {A B : List (Int × Int)} (h : A.length ≠ B.length) : keepsM S A B = false := by
  unfold keepsM
  rw [decide_eq_false h]
  rfl

theorem keepsM_bad {S : List (Int × Int × Int)} {A B : List (Int × Int)} {k : Nat} (hk : k < A.length) (h : mayM S (A.getD k (0, 0)) (B.getD k (0, 0)) = false) : keepsM S A B = false := by
  unfold keepsM
  cases ha : allN A.length fun i => mayM S (A.getD i (0, 0)) (B.getD i (0, 0))
  · simp
  · have := (allN_of _ _).1 ha k hk
    rw [h] at this
    cases this

set_option maxRecDepth 100000 in
set_option maxHeartbeats 4000000 in
theorem becomesAll_any (S : List (Int × Int × Int)) (sn sc : Nat) (sa : Option Addr) (A B : List (Int × Int)) (n m nc mc : Nat) (aa ba : Option Addr) (w : World) (hs : S.length = sn) (hsn : sn ≤ 1000) (hS : SwapsAt w sa S)
    (hA : A.length = n) (hn : n ≤ 1000) (hAm : Marks w aa A) (hB : B.length = m) (hBm : Marks w ba B) :
    Calls Tryz.prog 82 #[.slice sa sn sc, .slice aa n nc, .slice ba m mc] w fun e w' => e = .returned (.bool (keepsM S A B)) ∧ Below w.heap.size w w' := by
  obtain ⟨z, hz⟩ : ∃ z, keepsM S A B = z := ⟨_, rfl⟩
  rw [hz]
  have HZ := hid hz
  have HS := hid hs; have HA := hid hA; have HB := hid hB
  clear hz hs hA hB
  go_enter Tryz.func82, Tryz.ntmps82
  by_cases hnm : n = m
  · subst hnm
    go_wp2_with fail
    go_loopw [7] (fun i wr => ∃ k : Nat, k ≤ n ∧ i = .int .i64 k ∧ Hid (∀ j, j < k → mayM S (A.getD j (0, 0)) (B.getD j (0, 0)) = true) ∧ Below w.heap.size w wr) (fun i _ => n - (intOf i).toNat)
    case atStart => exact ⟨0, Nat.zero_le _, rfl, hid (fun j h => by omega), Below.refl _ _⟩
    case round =>
      obtain ⟨k, hk, rfl, HF, hb⟩ := hrel
      by_cases hlt : k < n
      · have hlt' : (k : Int) < (n : Int) := by omega
        obtain ⟨ab, aoff, rfl, e1, e2⟩ := (hAm.grown hb) k (by rw [HA.out]; exact hlt)
        obtain ⟨bb, boff, rfl, d1, d2⟩ := (hBm.grown hb) k (by rw [HB.out]; exact hlt)
        have hbad : mayM S (A.getD k (0, 0)) (B.getD k (0, 0)) = false → z = false := fun h => by rw [← HZ.out]; exact keepsM_bad (by rw [HA.out]; exact hlt) h
        obtain ⟨x, hx⟩ : ∃ x, A.getD k (0, 0) = x := ⟨_, rfl⟩
        obtain ⟨y, hy⟩ : ∃ x, B.getD k (0, 0) = x := ⟨_, rfl⟩
        rw [hx] at e1 e2
        rw [hy] at d1 d2
        rw [hx, hy] at hbad
        have HX := hid hx
        have HY := hid hy
        have HBAD := hid hbad
        clear hx hy hbad hlt
        obtain ⟨x1, x2⟩ := x
        obtain ⟨y1, y2⟩ := y
        simp only at e1 e2 d1 d2
        have ga := lt_of_cell e1
        have gb := lt_of_cell d1
        have hSw := hS.grown hb
        have hcall : ∀ W, SwapsAt W sa S → Calls Tryz.prog 58 #[.slice sa sn sc, .agg #[.int .u8 x1, .int .i64 x2], .agg #[.int .u8 y1, .int .i64 y2]] W fun e w' => e = .returned (.bool (mayM S (x1, x2) (y1, y2))) ∧ Below W.heap.size W w' :=
          fun W h => becomes_any S sn sc sa (x1, x2) (y1, y2) W HS.out hsn h
        have j1 : (0 : Int) ≤ (k : Int) := by omega
        have hBd : Below wr.heap.size wr wr.drew := (Below.refl _ _).drew
        cases hmay : mayM S (x1, x2) (y1, y2)
        · have hzf : z = false := HBAD.out hmay
          rw [hmay] at hcall
          clear hmay
          go_wp2_with fail
          go_region_held3 (fun w' : World => w'.cell? ⟨ab, aoff + k * 2, none⟩ = some (.int .u8 x1) ∧ w'.cell? ⟨ab, aoff + k * 2 + 1, none⟩ = some (.int .i64 x2) ∧ w'.cell? ⟨bb, boff + k * 2, none⟩ = some (.int .u8 y1) ∧ w'.cell? ⟨bb, boff + k * 2 + 1, none⟩ = some (.int .i64 y2)) (first | exact ⟨e1, e2, d1, d2⟩) (first | (go_at_call 58; replace e1 := cell_grown hBd e1; replace e2 := cell_grown hBd e2; replace d1 := cell_grown hBd d1; replace d2 := cell_grown hBd d2; refine (hcall _ (hSw.grown hBd)).mono ?_; rintro e w4 ⟨rfl, hb4⟩; have hb5 := hBd.trans (hb4.mono hBd.size); replace e1 := cell_grown hb4 e1; replace e2 := cell_grown hb4 e2; replace d1 := cell_grown hb4 d1; replace d2 := cell_grown hb4 d2))
          go_wp2
          go_ret
          exact ⟨by first | rfl | (rw [hzf]; rfl), below_then hb hb5⟩
        · have HM : Hid (mayM S (A.getD k (0, 0)) (B.getD k (0, 0)) = true) := hid (by rw [HX.out, HY.out]; exact hmay)
          rw [hmay] at hcall
          clear hmay
          go_wp2_with fail
          go_region_held3 (fun w' : World => w'.cell? ⟨ab, aoff + k * 2, none⟩ = some (.int .u8 x1) ∧ w'.cell? ⟨ab, aoff + k * 2 + 1, none⟩ = some (.int .i64 x2) ∧ w'.cell? ⟨bb, boff + k * 2, none⟩ = some (.int .u8 y1) ∧ w'.cell? ⟨bb, boff + k * 2 + 1, none⟩ = some (.int .i64 y2)) (first | exact ⟨e1, e2, d1, d2⟩) (first | (go_at_call 58; replace e1 := cell_grown hBd e1; replace e2 := cell_grown hBd e2; replace d1 := cell_grown hBd d1; replace d2 := cell_grown hBd d2; refine (hcall _ (hSw.grown hBd)).mono ?_; rintro e w4 ⟨rfl, hb4⟩; have hb5 := hBd.trans (hb4.mono hBd.size); replace e1 := cell_grown hb4 e1; replace e2 := cell_grown hb4 e2; replace d1 := cell_grown hb4 d1; replace d2 := cell_grown hb4 d2))
          go_wp2
          go_roundw
          case rel => exact ⟨k + 1, by omega, by go_num, hid (fun j hj => by
            by_cases e : j = k
            · subst e; exact HM.out
            · exact HF.out j (by omega)), below_then hb hb5⟩
          case measure => simp [intOf]; omega
      · have hkn : k = n := by omega
        subst hkn
        have hzt : z = true := by
          rw [← HZ.out, keepsM, HA.out, HB.out, decide_eq_true rfl, Bool.true_and]
          exact (allN_of k _).2 (fun i hi => HF.out i hi)
        clear HF hlt
        go_wp2
        go_ret
        exact ⟨by first | rfl | (rw [hzt]; rfl), hb⟩
  · have hzf : z = false := by rw [← HZ.out]; exact keepsM_len (by rw [HA.out, HB.out]; exact hnm)
    have h1 : ((n : Int) != (m : Int)) = true := by simp; omega
    clear hnm
    go_wp2
    go_ret
    exact ⟨by first | rfl | (rw [hzf]; rfl), Below.refl _ _⟩

/-- Do two spans of words meet, by the chapter's words? -/
def meetR (f c g d : Int) : Bool :=
  if c = 0 ∧ d = 0 then decide (f = g) else if c = 0 then decide (g < f) && decide (f < g + d) else if d = 0 then decide (f < g) && decide (g < f + c) else decide (f < g + d) && decide (g < f + c)

theorem meetR_meetA {x y : Ask} (h1 : 0 ≤ x.c) (h2 : 0 ≤ y.c) : meetR x.f x.c y.f y.c = meetA x y := by
  unfold meetR meetA
  rw [Bool.eq_iff_iff]
  split
  · simp only [decide_eq_true_eq, Bool.or_eq_true, Bool.and_eq_true]; omega
  · split
    · simp only [decide_eq_true_eq, Bool.or_eq_true, Bool.and_eq_true]; omega
    · split
      · simp only [decide_eq_true_eq, Bool.or_eq_true, Bool.and_eq_true]; omega
      · simp only [decide_eq_true_eq, Bool.or_eq_true, Bool.and_eq_true]; omega

end Go.Proofs.YtbampfkmgjfofaaGreatDoor
