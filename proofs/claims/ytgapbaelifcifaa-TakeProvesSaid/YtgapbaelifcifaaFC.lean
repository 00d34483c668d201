/- Contract of the reference's Done. -/
import Derived.Test.YtgapbaelifcifaaFB
namespace Go.Proofs.Ytgapbaelifcifaa
open Go.RowKit

theorem cell_one_new (w : World) (x : Value) (t : TypeId) (b : Nat) (hb : b = w.heap.size) : ∀ j u, [x][j]? = some u → (w.alloc (.cells #[x] t)).cell? ((⟨b, 0, none⟩ : Addr).add j) = some u := by
  subst hb
  intro j u hj
  match j, hj with
  | 0, hj => simp at hj; subst hj; simp [Addr.add]
  | (j + 1), hj => simp at hj

/-- When each take is done. -/
def endsM (T R : List (Int × Int)) : List Int := (List.range T.length).map fun i => endM (T.getD i (0, 0)) (R.getD i (0, 0)).1 (R.getD i (0, 0)).2

theorem endsM_length (T R : List (Int × Int)) : (endsM T R).length = T.length := by simp [endsM]

theorem endsM_get {T R : List (Int × Int)} {k : Nat} (hk : k < T.length) : (endsM T R).getD k 0 = endM (T.getD k (0, 0)) (R.getD k (0, 0)).1 (R.getD k (0, 0)).2 := by
  unfold endsM
  rw [List.getD_eq_getElem?_getD, List.getElem?_map, List.getElem?_range hk]
  rfl

theorem take_getD {α : Type} {d : α} {X : List α} {k : Nat} (hk : k < X.length) : X.take (k + 1) = X.take k ++ [X.getD k d] := by
  rw [List.take_add_one]
  simp [List.getElem?_eq_getElem hk]

set_option maxRecDepth 100000 in
set_option maxHeartbeats 4000000 in
theorem doneR_any (T R : List (Int × Int)) (n tc rc : Nat) (ta ra : Option Addr) (w : World) (hT : T.length = n) (hR : R.length = n) (hn : n ≤ 60) (hST : Spans w ta T) (hSR : Spans w ra R)
    (bT : ∀ k, k < n → 0 ≤ (T.getD k (0, 0)).1 ∧ (T.getD k (0, 0)).1 < (T.getD k (0, 0)).2 ∧ (T.getD k (0, 0)).2 ≤ 36000) (bR : ∀ k, k < n → (0 ≤ (R.getD k (0, 0)).1 ∧ (R.getD k (0, 0)).1 ≤ 20) ∧ 0 ≤ (R.getD k (0, 0)).2 ∧ (R.getD k (0, 0)).2 ≤ 36000) :
    Calls Try.prog 42 #[.slice ta n tc, .slice ra n rc] w fun e w' => ∃ va vc, e = .returned (.slice va n vc) ∧ Ints w' va (endsM T R) ∧ Below w.heap.size w w' := by
  have HT := hid hT
  have HR := hid hR
  have HBT := hid bT
  have HBR := hid bR
  obtain ⟨E, hE⟩ : ∃ E, endsM T R = E := ⟨_, rfl⟩
  have HE := hid hE
  have HEL : Hid (E.length = n) := hid (by rw [← hE, endsM_length, hT])
  rw [hE]
  clear hT hR bT bR hE
  obtain ⟨i3, hi3, hi3a, hi3b, hi3c⟩ := info_parts Try.info3
  go_enter Try.func42, Try.ntmps42
  go_wp2_with fail
  go_loopw [5, 6] (fun v i wr => ∃ k : Nat, k ≤ n ∧ i = .int .i64 k ∧ wr.ownsRow w.heap.size 3 1 v k (flat1 (E.take k)) ∧ Below w.heap.size w wr) (fun _ i _ => n - (intOf i).toNat)
  case atStart => exact ⟨0, Nat.zero_le _, rfl, World.ownsRow_nil _ _ _ _, Below.refl _ _⟩
  case round =>
    obtain ⟨k, hk, rfl, hown, hB⟩ := hrel
    have hzr := hB.size
    by_cases hlt : k < n
    · obtain ⟨bt, ot, rfl, e1, e2⟩ := hST k (by rw [HT.out]; exact hlt)
      obtain ⟨br, orr, rfl, e3, e4⟩ := hSR k (by rw [HR.out]; exact hlt)
      have hbT := HBT.out k hlt
      have hbR := HBR.out k hlt
      have hval : Hid (E.take (k + 1) = E.take k ++ [endM (T.getD k (0, 0)) (R.getD k (0, 0)).1 (R.getD k (0, 0)).2]) := hid (by rw [take_getD (d := 0) (by rw [HEL.out]; exact hlt), ← HE.out, endsM_get (by rw [HT.out]; exact hlt)])
      obtain ⟨x, hx⟩ : ∃ x, T.getD k (0, 0) = x := ⟨_, rfl⟩
      obtain ⟨y, hy⟩ : ∃ y, R.getD k (0, 0) = y := ⟨_, rfl⟩
      rw [hx] at e1 e2 hbT hval
      rw [hy] at e3 e4 hbR hval
      clear hx hy
      obtain ⟨f, t⟩ := x
      obtain ⟨s, d⟩ := y
      simp only at e1 e2 e3 e4 hbT hbR
      obtain ⟨z, hz⟩ : ∃ z, endM (f, t) s d = z := ⟨_, rfl⟩
      simp only at hval
      rw [hz] at hval
      have HZ := hid hz
      clear hz
      have y0 := cell_grown hB e1
      have y1 := cell_grown hB e2
      have y2 := cell_grown hB e3
      have y3 := cell_grown hB e4
      have hkk : (k : Int) < n := by omega
      have gb := lt_of_cell y0
      have gb2 := lt_of_cell y2
      have hBd : Below wr.heap.size wr wr.drew := (Below.refl _ _).drew
      go_wp2_with fail
      go_region_held3 (fun w' : World => w'.cell? ⟨bt, ot + k * 2, none⟩ = some (.int .i64 f) ∧ w'.cell? ⟨bt, ot + k * 2 + 1, none⟩ = some (.int .i64 t) ∧ w'.cell? ⟨br, orr + k * 2, none⟩ = some (.int .i64 s) ∧ w'.cell? ⟨br, orr + k * 2 + 1, none⟩ = some (.int .i64 d)) (first | exact ⟨y0, y1, y2, y3⟩ | exact ⟨cell_grown (Below.alloc (Below.refl _ _) (Nat.le_refl _) _) y0, cell_grown (Below.alloc (Below.refl _ _) (Nat.le_refl _) _) y1, cell_grown (Below.alloc (Below.refl _ _) (Nat.le_refl _) _) y2, cell_grown (Below.alloc (Below.refl _ _) (Nat.le_refl _) _) y3⟩) (first
        | (go_at_call 66; refine (end_any f t s d _ (by omega) (by omega) (by omega)).mono ?_; rintro e w2 ⟨rfl, hb2⟩; rw [HZ.out]; have hB2 := hB.trans ((hBd.trans (hb2.mono (Nat.le_refl _))).mono hzr); have hown2 := ownsRow_below (ownsRow_below hown hBd) hb2; replace y0 := cell_grown hB2 e1; replace y1 := cell_grown hB2 e2; replace y2 := cell_grown hB2 e3; replace y3 := cell_grown hB2 e4)
        | (refine step_append_lies _ rfl _ _ 53 rfl w.heap.size 3 i3 (.int .i64 0) 1 8 Try.underlying53 hi3 hi3a hi3b hi3c rfl (by decide) _ k _ rfl (hown2.alloc _) ⟨w2.heap.size, 0, none⟩ 1 1 [.int .i64 z] rfl rfl (cell_one_new _ _ _ _ rfl) (fun x hx => by simp at hx; subst hx; rfl) (by omega) (by unfold maxLen; omega) (by omega) (by have := hB2.size; simp; omega) (w2.heap.size + 1) (by simp) ?_; intro g cp w3 hown' hgrow hat hlt'; have hb3 := below_of_grown hB2 hown2 hgrow hB2.size; replace y0 := cell_grown hb3 e1; replace y1 := cell_grown hb3 e2; replace y2 := cell_grown hb3 e3; replace y3 := cell_grown hb3 e4; clear hgrow hat))
      go_wp2
      go_roundw
      case rel => exact ⟨k + 1, by omega, by go_num, by rw [hval.out]; simpa [flat1] using hown', hb3⟩
      case measure => simp [intOf]; omega
    · have hkn : k = n := by omega
      subst hkn
      have hLk : E.take k = E := List.take_of_length_le (by rw [HEL.out]; omega)
      rw [hLk] at hown
      obtain ⟨va, vc, hv⟩ := owns_shape hown
      subst hv
      have HO := hid (ints_of_owns1 HEL.out hown)
      clear hown hLk
      go_wp2
      go_ret
      exact ⟨va, vc, rfl, HO.out, hB⟩

end Go.Proofs.Ytgapbaelifcifaa
