/- Tongue: how many lines sentences take. Tongue: level columns. Tongue: level columns, where texts lie; the kinds of steps. -/
import Derived.Test.YtohahlnhbppnhaaAU
import Derived.BigQuiet
import Derived.Deep.CutRange
import Derived.Test.YtohahlnhbppnhaaAJ
namespace Go.Proofs.Ytohahlnhbppnhaa
open Go.RowKit
set_option linter.unusedSimpArgs false
set_option linter.unusedVariables false

def sizeM (T : List Sen) : Int := (T.map Sen.size).sum

theorem sizeM_take (T : List Sen) (j : Nat) (hj : j < T.length) : sizeM (T.take (j + 1)) = sizeM (T.take j) + (T.getD j default).size := by
  unfold sizeM
  rw [List.take_add_one, List.map_append, List.sum_append, List.getD_eq_getElem?_getD, List.getElem?_eq_getElem hj]
  simp

theorem sizeM_bd (T : List Sen) (hz : ∀ s ∈ T, 1 ≤ s.size ∧ s.size ≤ 200) : (T.length : Int) ≤ sizeM T ∧ sizeM T ≤ 200 * T.length := by
  induction T with
  | nil => exact ⟨Int.le_refl _, Int.le_refl _⟩
  | cons s T ih =>
    have h1 := hz s List.mem_cons_self
    have h2 := ih (fun x hx => hz x (List.mem_cons_of_mem _ hx))
    have e : sizeM (s :: T) = s.size + sizeM T := rfl
    rw [e, List.length_cons]
    omega

theorem size_take_bd {T : List Sen} (hz : ∀ s ∈ T, 1 ≤ s.size ∧ s.size ≤ 200) (j : Nat) (hj : j ≤ T.length) : 0 ≤ sizeM (T.take j) ∧ sizeM (T.take j) ≤ 200 * j := by
  have h := sizeM_bd (T.take j) (fun s hs => hz s (List.mem_of_mem_take hs))
  rw [List.length_take, Nat.min_eq_left hj] at h
  omega

set_option maxRecDepth 100000 in
set_option maxHeartbeats 1000000 in
theorem size_any (T : List Sen) (n cap : Nat) (a : Option Addr) (w : World) (hT : T.length = n) (hn : n ≤ 1000) (hz : ∀ s ∈ T, 1 ≤ s.size ∧ s.size ≤ 200) (hS : TextAt w a T) :
    Calls Try.prog 86 #[.slice a n cap] w fun e w' => e = .returned (.int .i64 (sizeM T)) ∧ Below w.heap.size w w' := by
  have HB : Hid (∀ j, j ≤ n → 0 ≤ sizeM (T.take j) ∧ sizeM (T.take j) ≤ 200 * j) := hid (fun j hj => size_take_bd hz j (by omega))
  have HST : Hid (∀ j, j < n → sizeM (T.take (j + 1)) = sizeM (T.take j) + (T.getD j default).size) := hid (fun j hj => sizeM_take T j (by omega))
  have HZ : Hid (∀ j, j < n → 1 ≤ (T.getD j default).size ∧ (T.getD j default).size ≤ 200) := hid (fun j hj => hz _ (by rw [List.getD_eq_getElem?_getD, List.getElem?_eq_getElem (by omega)]; exact List.getElem_mem _))
  have HF : Hid (sizeM T = sizeM (T.take n)) := hid (by rw [← hT, List.take_length])
  have HT := hid hT
  clear hT hz
  go_enter Try.func86, Try.ntmps86
  go_wp2_with fail
  go_loopw [3, 5, 8] (fun v _ i wr => ∃ (j : Nat) (s : Int), j ≤ n ∧ i = .int .i64 j ∧ v = .int .i64 s ∧ Hid (s = sizeM (T.take j)) ∧ Below w.heap.size w wr) (fun _ _ i _ => n - (intOf i).toNat)
  case atStart => exact ⟨0, 0, Nat.zero_le _, rfl, rfl, hid rfl, Below.refl _ _⟩
  case round =>
    obtain ⟨j, s, hj, rfl, rfl, HS, hB⟩ := hrel
    have hs : 0 ≤ s ∧ s ≤ 200 * j := by rw [HS.out]; exact HB.out j hj
    by_cases hlt : j < n
    · have hlt' : (j : Int) < n := by omega
      obtain ⟨b, off, ma, mc, ea, c0, c1, -⟩ := (hS.grown hB) j (by rw [HT.out]; exact hlt)
      subst ea
      have gc := lt_of_cell c0
      have hst := HST.out j hlt
      have hz1 := HZ.out j hlt
      generalize (T.getD j default).size = z at c1 hst hz1
      generalize (T.getD j default).marks.length = k at c0
      have HST1 := hid hst
      clear hst
      go_wp2_with fail
      go_roundw
      case rel => exact ⟨j + 1, s + z, by omega, by go_num, by go_num, hid (by rw [HST1.out, HS.out]), hB.trans ((Below.refl _ wr).alloc hB.size _)⟩
      case measure => simp [intOf]; omega
    · have hjn : j = n := by omega
      subst hjn
      have hz : sizeM T = s := by rw [HF.out, HS.out]
      have HFZ := hid hz
      clear hz
      go_wp2_with fail
      go_ret
      exact ⟨by rw [HFZ.out]; rfl, hB⟩

set_option maxRecDepth 100000 in
set_option maxHeartbeats 1000000 in
/-- The reference's size. -/
theorem refSize_any (T : List Sen) (n cap : Nat) (a : Option Addr) (w : World) (hT : T.length = n) (hn : n ≤ 1000) (hz : ∀ s ∈ T, 1 ≤ s.size ∧ s.size ≤ 200) (hS : TextAt w a T) :
    Calls Try.prog 50 #[.slice a n cap] w fun e w' => e = .returned (.int .i64 (sizeM T)) ∧ Below w.heap.size w w' := by
  have HB : Hid (∀ j, j ≤ n → 0 ≤ sizeM (T.take j) ∧ sizeM (T.take j) ≤ 200 * j) := hid (fun j hj => size_take_bd hz j (by omega))
  have HST : Hid (∀ j, j < n → sizeM (T.take (j + 1)) = sizeM (T.take j) + (T.getD j default).size) := hid (fun j hj => sizeM_take T j (by omega))
  have HZ : Hid (∀ j, j < n → 1 ≤ (T.getD j default).size ∧ (T.getD j default).size ≤ 200) := hid (fun j hj => hz _ (by rw [List.getD_eq_getElem?_getD, List.getElem?_eq_getElem (by omega)]; exact List.getElem_mem _))
  have HF : Hid (sizeM T = sizeM (T.take n)) := hid (by rw [← hT, List.take_length])
  have HT := hid hT
  clear hT hz
  go_enter Try.func50, Try.ntmps50
  go_wp2_with fail
  go_loopw [3, 4] (fun v i wr => ∃ (j : Nat) (s : Int), j ≤ n ∧ i = .int .i64 j ∧ v = .int .i64 s ∧ Hid (s = sizeM (T.take j)) ∧ Below w.heap.size w wr) (fun _ i _ => n - (intOf i).toNat)
  case atStart => exact ⟨0, 0, Nat.zero_le _, rfl, rfl, hid rfl, Below.refl _ _⟩
  case round =>
    obtain ⟨j, s, hj, rfl, rfl, HS, hB⟩ := hrel
    have hs : 0 ≤ s ∧ s ≤ 200 * j := by rw [HS.out]; exact HB.out j hj
    by_cases hlt : j < n
    · have hlt' : (j : Int) < n := by omega
      obtain ⟨b, off, ma, mc, ea, c0, c1, -⟩ := (hS.grown hB) j (by rw [HT.out]; exact hlt)
      subst ea
      have gc := lt_of_cell c0
      have hst := HST.out j hlt
      have hz1 := HZ.out j hlt
      generalize (T.getD j default).size = z at c1 hst hz1
      generalize (T.getD j default).marks.length = k at c0
      have HST1 := hid hst
      clear hst
      go_wp2_with fail
      go_roundw
      case rel => exact ⟨j + 1, s + z, by omega, by go_num, by go_num, hid (by rw [HST1.out, HS.out]), hB⟩
      case measure => simp [intOf]; omega
    · have hjn : j = n := by omega
      subst hjn
      have hz : sizeM T = s := by rw [HF.out, HS.out]
      have HFZ := hid hz
      clear hz
      go_wp2_with fail
      go_ret
      exact ⟨by rw [HFZ.out]; rfl, hB⟩

end Go.Proofs.Ytohahlnhbppnhaa

namespace Go.Proofs.Ytohahlnhbppnhaa
open Go.RowKit
set_option linter.unusedSimpArgs false
set_option linter.unusedVariables false

def leftS (L : List Sen) (m : Nat × Nat × Nat × Nat) : Int := sizeM ((L.drop m.1).take m.2.2.1)
def rightS (R : List Sen) (m : Nat × Nat × Nat × Nat) : Int := sizeM ((R.drop m.2.1).take m.2.2.2)
def wideM (L R : List Sen) (m : Nat × Nat × Nat × Nat) : Int := max (leftS L m) (rightS R m)

/-- The lines of the first so many steps; how many are blank; where steps begin. -/
def linesM (L R : List Sen) (ms : List (Nat × Nat × Nat × Nat)) (j : Nat) : Int := ((ms.take j).map (wideM L R)).sum
def blankM (L R : List Sen) (ms : List (Nat × Nat × Nat × Nat)) (j : Nat) : Int := ((ms.take j).map fun m => wideM L R m - leftS L m + wideM L R m - rightS R m).sum
def beginsM (L R : List Sen) (ms : List (Nat × Nat × Nat × Nat)) (j : Nat) : List Int := (List.range j).map (linesM L R ms)

theorem linesM_succ (L R : List Sen) (ms : List (Nat × Nat × Nat × Nat)) (j : Nat) (hj : j < ms.length) : linesM L R ms (j + 1) = linesM L R ms j + wideM L R (ms.getD j default) := by
  unfold linesM
  rw [List.take_add_one, List.getElem?_eq_getElem hj, List.getD_eq_getElem?_getD, List.getElem?_eq_getElem hj, List.map_append, List.sum_append]
  simp

theorem blankM_succ (L R : List Sen) (ms : List (Nat × Nat × Nat × Nat)) (j : Nat) (hj : j < ms.length) : blankM L R ms (j + 1) = blankM L R ms j + (wideM L R (ms.getD j default) - leftS L (ms.getD j default) + wideM L R (ms.getD j default) - rightS R (ms.getD j default)) := by
  unfold blankM
  rw [List.take_add_one, List.getElem?_eq_getElem hj, List.getD_eq_getElem?_getD, List.getElem?_eq_getElem hj, List.map_append, List.sum_append]
  simp

theorem beginsM_succ (L R : List Sen) (ms : List (Nat × Nat × Nat × Nat)) (j : Nat) : beginsM L R ms (j + 1) = beginsM L R ms j ++ [linesM L R ms j] := by
  unfold beginsM
  rw [List.range_succ]
  simp

theorem beginsM_length (L R : List Sen) (ms : List (Nat × Nat × Nat × Nat)) (j : Nat) : (beginsM L R ms j).length = j := by simp [beginsM]

def SizesOk (T : List Sen) : Prop := ∀ s ∈ T, 1 ≤ s.size ∧ s.size ≤ 200

theorem SizesOk.part {T : List Sen} (h : SizesOk T) (l k : Nat) : SizesOk ((T.drop l).take k) := fun s hs => h s (List.mem_of_mem_drop (List.mem_of_mem_take hs))

theorem cell_kept {X Y : World} {row : Option Nat} (hg : X.grownBy Y row) {b o : Nat} {v : Value} (hne : some b ≠ row) (hc : X.cell? ⟨b, o, none⟩ = some v) : Y.cell? ⟨b, o, none⟩ = some v :=
  (World.cell?_of_block (w := X) (a := ⟨_, _, none⟩) (hg.block _ (lt_of_cell hc) hne)).trans hc

theorem part_bd {T : List Sen} (h : SizesOk T) (l k : Nat) (hk : k ≤ 2) : 0 ≤ sizeM ((T.drop l).take k) ∧ sizeM ((T.drop l).take k) ≤ 400 := by
  have h1 := sizeM_bd _ (h.part l k)
  have h2 : ((T.drop l).take k).length ≤ 2 := by rw [List.length_take]; omega
  omega

set_option maxRecDepth 100000 in
set_option maxHeartbeats 2000000 in
theorem level_any (L R : List Sen) (nl cl nr cr n b mc : Nat) (la ra ma : Option Addr) (ms : List (Nat × Nat × Nat × Nat)) (w : World) (hL : L.length = nl) (hR : R.length = nr) (hnl : nl ≤ 1000) (hnr : nr ≤ 1000) (zL : SizesOk L) (zR : SizesOk R) (hcl : nl ≤ cl) (hcr : nr ≤ cr) (hS : TextAt w la L) (hT : TextAt w ra R)
    (hm : ms.length = n) (hn : n ≤ 1000) (hf : Fits nl nr ms) (hM : MovesAt w ma la cl ra cr ms) :
    Calls Try.prog 61 #[.agg #[.slice la nl cl, .int .u8 0, .int .i64 0, .slice ra nr cr, .int .u8 1, .int .i64 0, .slice (some ⟨b, 0, none⟩) 3 3, .slice ma n mc]] w fun e w' => ∃ a cap, e = .returned (.tuple #[.slice a n cap, .int .i64 (linesM L R ms n), .int .i64 (blankM L R ms n)]) ∧ IntsAt w' a (beginsM L R ms n) ∧ Below w.heap.size w w' := by
  obtain ⟨i0, hi0, hz0, hz1, hz2⟩ := info_parts Try.info3
  obtain ⟨pb, hpb⟩ : ∃ q, q = w.heap.size := ⟨_, rfl⟩
  obtain ⟨W0, hW0⟩ : ∃ X, X = w.alloc (.cells #[.slice la nl cl, .int .u8 0, .int .i64 0, .slice ra nr cr, .int .u8 1, .int .i64 0, .slice (some ⟨b, 0, none⟩) 3 3, .slice ma n mc] 128) := ⟨_, rfl⟩
  have hB0 : Below w.heap.size w W0 := by rw [hW0]; exact below_alloc _ _
  have p7' : W0.cell? ⟨pb, 7, none⟩ = some (.slice ma n mc) := by rw [hW0, hpb]; simp [go_sem]
  replace hM := hM.grown hB0
  replace hS := hS.grown hB0
  replace hT := hT.grown hB0
  have hpl : ∀ (Z : World) (i x : Nat), Below W0.heap.size W0 Z → i + x ≤ nl → Calls Try.prog 86 #[.slice (subA la cl i 2) x (cl - i)] Z fun e w' => e = .returned (.int .i64 (sizeM ((L.drop i).take x))) ∧ Below Z.heap.size Z w' := fun Z i x hbz h1 =>
    size_any ((L.drop i).take x) x (cl - i) (subA la cl i 2) Z (by simp; omega) (by omega) (zL.part _ _) ((hS.grown hbz).part hL hcl i x h1)
  have hpr : ∀ (Z : World) (k y : Nat), Below W0.heap.size W0 Z → k + y ≤ nr → Calls Try.prog 86 #[.slice (subA ra cr k 2) y (cr - k)] Z fun e w' => e = .returned (.int .i64 (sizeM ((R.drop k).take y))) ∧ Below Z.heap.size Z w' := fun Z k y hbz h1 =>
    size_any ((R.drop k).take y) y (cr - k) (subA ra cr k 2) Z (by simp; omega) (by omega) (zR.part _ _) ((hT.grown hbz).part hR hcr k y h1)
  have HL1 : Hid (∀ j, j < n → linesM L R ms (j + 1) = linesM L R ms j + wideM L R (ms.getD j default)) := hid (fun j hj => linesM_succ L R ms j (by omega))
  have HL2 : Hid (∀ j, j < n → blankM L R ms (j + 1) = blankM L R ms j + (wideM L R (ms.getD j default) - leftS L (ms.getD j default) + wideM L R (ms.getD j default) - rightS R (ms.getD j default))) := hid (fun j hj => blankM_succ L R ms j (by omega))
  have HL3 : Hid (∀ j, beginsM L R ms (j + 1) = beginsM L R ms j ++ [linesM L R ms j]) := hid (beginsM_succ L R ms)
  have HLN : Hid (∀ j, (beginsM L R ms j).length = j) := hid (beginsM_length L R ms)
  have HM := hid hm
  clear hm hL hR hS hT
  go_enter Try.func61, Try.ntmps61
  go_wp2_with fail
  rw [← hW0, ← hpb]
  have gp := lt_of_cell p7'
  have HPB := hid hpb
  clear hpb hW0
  go_loopw [2, 3, 4, 6, 7, 8, 9, 13] (fun v li bl _ _ _ _ i wr => ∃ (j : Nat) (s q : Int), j ≤ n ∧ i = .int .i64 j ∧ li = .int .i64 s ∧ bl = .int .i64 q ∧ Hid (s = linesM L R ms j) ∧ Hid (q = blankM L R ms j) ∧ 0 ≤ s ∧ s ≤ 400 * j ∧ 0 ≤ q ∧ q ≤ 800 * j ∧ wr.ownsRow W0.heap.size 3 1 v j ((beginsM L R ms j).map fun z => .int .i64 z) ∧ Below W0.heap.size W0 wr) (fun _ _ _ _ _ _ _ i _ => n - (intOf i).toNat)
  case atStart => exact ⟨0, 0, 0, Nat.zero_le _, rfl, rfl, rfl, hid rfl, hid rfl, by omega, by omega, by omega, by omega, World.ownsRow_nil _ _ _ _, Below.refl _ _⟩
  case round =>
    obtain ⟨j, s, q, hj, rfl, rfl, rfl, HS, HQ, s1, s2, q1, q2, hown, hB⟩ := hrel
    obtain ⟨va, vc, rfl⟩ := owns_shape hown
    have p7 := cell_grown hB p7'
    have gq := lt_of_cell p7
    by_cases hlt : j < n
    · have hlt' : (j : Int) < n := by omega
      obtain ⟨eb, off, ea, hc⟩ := (hM.grown hB) j (by rw [HM.out]; exact hlt)
      subst ea
      obtain ⟨m, hm⟩ : ∃ m, ms.getD j default = m := ⟨_, rfl⟩
      obtain ⟨c0, c1, c2, c3, c4, c5, c6, c7⟩ := hc m hm
      have hmem : m ∈ ms := by
        rw [← hm, List.getD_eq_getElem?_getD, List.getElem?_eq_getElem (by rw [HM.out]; exact hlt)]
        exact List.getElem_mem _
      obtain ⟨f1, f2, f3, f4, f5⟩ := hf m hmem
      have h1 := HL1.out j hlt
      have h2 := HL2.out j hlt
      have h3 := HL3.out j
      rw [hm] at h1 h2
      obtain ⟨i, k, x, y⟩ := m
      simp only at c0 c1 c2 c3 c4 c5 c6 c7 f1 f2 f3 f4 f5
      have b1 := part_bd zL i x f3
      have b2 := part_bd zR k y f4
      have hw1 : wideM L R (i, k, x, y) = max (sizeM ((L.drop i).take x)) (sizeM ((R.drop k).take y)) := rfl
      have hw2 : leftS L (i, k, x, y) = sizeM ((L.drop i).take x) := rfl
      have hw3 : rightS R (i, k, x, y) = sizeM ((R.drop k).take y) := rfl
      rw [hw1] at h1
      rw [hw1, hw2, hw3] at h2
      have hca := fun Z h => hpl Z i x h f1
      have hcb := fun Z h => hpr Z k y h f2
      clear hmem hm hc hw1 hw2 hw3
      generalize subA la cl i 2 = sl at hca c2
      generalize subA ra cr k 2 = sr at hcb c5
      generalize cl - i = xl at hca c2
      generalize cr - k = xr at hcb c5
      generalize sizeM ((L.drop i).take x) = u at hca b1 h1 h2
      generalize sizeM ((R.drop k).take y) = v at hcb b2 h1 h2
      obtain ⟨mx, hmx⟩ : ∃ m, (if u < v then v else u) = m := ⟨_, rfl⟩
      have hmm : max u v = mx := by rw [← hmx]; split <;> omega
      rw [hmm] at h1 h2
      have m1 : 0 ≤ mx ∧ mx ≤ 400 ∧ u ≤ mx ∧ v ≤ mx := by omega
      have H1 := hid h1
      have H2 := hid h2
      have H3 := hid h3
      clear h1 h2 h3 hmm
      have ge := lt_of_cell c0
      have hsz := hB.size
      go_upto_region 4 with fail
      obtain ⟨W1, hW1⟩ : ∃ X, X = wr.alloc (.cells #[.int .i64 (x : Int), .int .i64 (y : Int), .slice sl x xl, .int .u8 0, .int .i64 (i : Int), .slice sr y xr, .int .u8 1, .int .i64 (k : Int)] 155) := ⟨_, rfl⟩
      have hb1 : Below W0.heap.size wr W1 := by rw [hW1]; exact (Below.refl _ wr).alloc hsz _
      have hown1 := book_owns hown (grown_none (below_alloc wr (.cells #[.int .i64 (x : Int), .int .i64 (y : Int), .slice sl x xl, .int .u8 0, .int .i64 (i : Int), .slice sr y xr, .int .u8 1, .int .i64 (k : Int)] 155))) (fun r e => by cases e)
      rw [← hW1] at hown1
      have d2 : W1.cell? ⟨wr.heap.size, 2, none⟩ = some (.slice sl x xl) := by rw [hW1]; simp [go_sem]
      have d5 : W1.cell? ⟨wr.heap.size, 5, none⟩ = some (.slice sr y xr) := by rw [hW1]; simp [go_sem]
      have gd := lt_of_cell d2
      have hvn : some wr.heap.size ≠ (Value.slice va j vc).ownBlock := fun e => by have := (hown.lt _ e.symm).2; omega
      rw [← hW1]
      clear hW1 c0 c1 c2 c3 c4 c5 c6 c7 hown
      have hs1 := hb1.size
      go_upto_region 5 with (at_builtin; refine wpList_append_own_at _ rfl _ _ 41 rfl W0.heap.size 3 i0 (.int .i64 0) 1 8 Try.underlying41 hi0 hz0 hz1 hz2 rfl (by decide) _ _ _ rfl (hown1.alloc _) ⟨W1.heap.size, 0, none⟩ 1 1 [.int .i64 s] rfl rfl (cell_one_new _ _ _) (by simp [Value.oneCell']) (by unfold maxLen; omega) (by omega) (by simp; omega) ?_; intro v' w5 hown' hgrow hnil hloc; have hb5 : Below W0.heap.size W1 w5 := (((Below.refl W0.heap.size W1).alloc (by omega) _).grown hgrow (by simp; omega) (fun r e => (hown1.lt r e).1)); replace d2 := cell_kept hgrow hvn (cell_grown (below_alloc _ _) d2); replace d5 := cell_kept hgrow hvn (cell_grown (below_alloc _ _) d5); replace gd := lt_of_cell d2)
      have hBx : Below W0.heap.size W0 w5 := hB.trans (hb1.trans hb5)
      have o2 : ∀ p : Over w5, p.w.cell? ⟨wr.heap.size, 2, none⟩ = some (.slice sl x xl) := fun p => p.cell d2
      have o5 : ∀ p : Over w5, p.w.cell? ⟨wr.heap.size, 5, none⟩ = some (.slice sr y xr) := fun p => p.cell d5
      have hcA : ∀ p : Over w5, _ := fun p => hca p.w (below_then hBx p.h)
      have hcB : ∀ p : Over w5, _ := fun p => hcb p.w (below_then hBx p.h)
      refine wp_region_over w5 (Below.refl _ _) (by kernel_rfl) (by kernel_rfl) ?_
      repeat (go_big_quiet_step (first | (go_at_call_has 86 sl; exact Calls.over_of (hcA _)) | (go_at_call_has 86 sr; exact Calls.over_of (hcB _))))
      refine wpQuiet_nil ?_
      intro wz hw'
      have hbz := over_below hw'
      clear hw' o2 o5 hcA hcB
      have hown3 := book_owns hown' (grown_none hbz) (fun r e => by cases e)
      go_wp2_with fail
      go_roundw
      case rel => exact ⟨j + 1, s + mx, q + (mx - u + mx - v), by omega, by go_num, by go_num, by go_num, hid (by rw [H1.out, HS.out]), hid (by rw [H2.out, HQ.out]), by omega, by omega, by omega, by omega, by rw [H3.out, List.map_append, ← HS.out]; exact hown3, hBx.trans (hbz.mono hBx.size)⟩
      case measure => simp [intOf]; omega
    · have hjn : j = n := by omega
      subst hjn
      have hin := ints_of_owns (L := beginsM L R ms j) (a := va) (cap := vc) (W := wr) (e := 3) (base := W0.heap.size) (by rw [HLN.out]; exact hown)
      go_wp2_with fail
      have HSO := HS.out
      have HQO := HQ.out
      exact bodyPost_ret (v := .tuple #[.slice va j vc, .int .i64 s, .int .i64 q]) (by simp [results, Try.f61, go_sem]) rfl ⟨va, vc, by rw [← HSO, ← HQO], hin, hB0.trans (hB.mono hB0.size)⟩

end Go.Proofs.Ytohahlnhbppnhaa

namespace Go.Proofs.Ytohahlnhbppnhaa
open Go.RowKit
set_option linter.unusedSimpArgs false
set_option linter.unusedVariables false

def LevelPost (L R : List Sen) (l : List (Int × Int)) (w : World) (e : Ending) (w' : World) : Prop :=
  Below w.heap.size w w' ∧ ((faultM L R ≠ 0 ∧ e = .returned (.tuple #[.slice none 0 0, .int .i64 0, .int .i64 0, .int .i64 (faultM L R)])) ∨
    (faultM L R = 0 ∧ matchM L.length R.length l = none ∧ e = .returned (.tuple #[.slice none 0 0, .int .i64 0, .int .i64 0, .int .i64 9])) ∨
    (faultM L R = 0 ∧ ∃ ms a cap, matchM L.length R.length l = some ms ∧ e = .returned (.tuple #[.slice a ms.length cap, .int .i64 (linesM L R ms ms.length), .int .i64 (blankM L R ms ms.length), .int .i64 0]) ∧ IntsAt w' a (beginsM L R ms ms.length)))

set_option maxHeartbeats 1000000 in
theorem levelOf_any (L R : List Sen) (nl cl nr cr : Nat) (la ra : Option Addr) (w : World) (hL : L.length = nl) (hR : R.length = nr) (sL : Small L) (sR : Small R) (hS : TextAt w la L) (hT : TextAt w ra R) (hcl : nl ≤ cl) (hcr : nr ≤ cr) (l : List (Int × Int)) (n sc : Nat) (sa : Option Addr) (hl : l.length = n) (hn : n ≤ 1000) (hP : PairsAt w sa l) :
    Calls Try.prog 26 #[.slice la nl cl, .slice ra nr cr, .slice sa n sc] w (LevelPost L R l w) := by
  have hmo := matchOf_any L R nl cl nr cr la ra w hL hR sL sR hS hT hcl hcr l n sc sa hl hn hP
  unfold LevelPost
  rw [hL, hR]
  go_enter Try.func26, Try.ntmps26
  go_wp2_with (go_at_call 58; refine hmo.mono ?_; clear hmo; rintro e w1 ⟨hb1, ⟨hne, rfl⟩ | ⟨hz, hmm, rfl⟩ | ⟨hz, ms, b, b0, b2, ma, mc, hmm, rfl, hch, hmv⟩⟩)
  · have h0' : ((faultM L R : Int) != 0) = true := by simp [hne]
    generalize faultM L R = z at hne h0' ⊢
    go_wp2_with fail
    exact bodyPost_ret (v := .tuple #[.slice none 0 0, .int .i64 0, .int .i64 0, .int .i64 z]) (by simp [results, Try.f26, go_sem]) rfl ⟨hb1.alloc hb1.size _, .inl ⟨hne, rfl⟩⟩
  · go_wp2_with fail
    exact bodyPost_ret (v := .tuple #[.slice none 0 0, .int .i64 0, .int .i64 0, .int .i64 9]) (by simp [results, Try.f26, go_sem]) rfl ⟨hb1.alloc hb1.size _, .inr (.inl ⟨hz, hmm, rfl⟩)⟩
  · have hfc := match_fits hmm
    obtain ⟨l1, l2, v1, v2⟩ := fault_zero hz
    have fL := fine_of L l1 v1
    have fR := fine_of R l2 v2
    have hco := fun W hbW => level_any L R nl cl nr cr ms.length b mc la ra ma ms W hL hR (by omega) (by omega) (fun s hs => (fL.2.2 s hs).2) (fun s hs => (fR.2.2 s hs).2) hcl hcr (hS.grown (below_then hb1 hbW)) (hT.grown (below_then hb1 hbW)) rfl (by rw [hfc.1, hl]; exact hn) hfc.2 (hmv.grown hbW)
    have HMM := hid hmm
    clear hmm hfc l1 l2 v1 v2 hch hmv hS hT hP sL sR fL fR
    obtain ⟨z1, hz1⟩ : ∃ z, linesM L R ms ms.length = z := ⟨_, rfl⟩
    obtain ⟨z2, hz2⟩ : ∃ z, blankM L R ms ms.length = z := ⟨_, rfl⟩
    simp only [hz1, hz2] at hco
    have HZ1 := hid hz1
    have HZ2 := hid hz2
    clear hz1 hz2
    go_wp2_with (go_at_call 61; refine (hco _ (below_alloc _ _)).mono ?_; rintro e w2 ⟨a, cap, rfl, hI, hb2⟩)
    exact bodyPost_ret (v := .tuple #[.slice a ms.length cap, .int .i64 z1, .int .i64 z2, .int .i64 0]) (by simp [results, Try.f26, go_sem]) rfl ⟨below_then hb1 (below_then (below_alloc _ _) hb2), .inr (.inr ⟨hz, ms, a, cap, HMM.out, by rw [HZ1.out, HZ2.out], hI⟩)⟩

/-- The kinds of steps, as numbers. -/
def kindsI : List (Int × Int) := [(2, 1), (1, 2), (1, 1), (1, 0), (0, 1)]

set_option maxHeartbeats 400000 in
theorem kinds_any (w : World) : Calls Try.prog 56 #[] w fun e w' => ∃ b, e = .returned (.slice (some ⟨b, 0, none⟩) 5 5) ∧ PairsAt w' (some ⟨b, 0, none⟩) kindsI ∧ Below w.heap.size w w' := by
  go_enter Try.func56, Try.ntmps56
  go_wp2_with fail
  go_ret
  refine ⟨w.heap.size, rfl, ?_, below_alloc _ _⟩
  intro i hi
  refine ⟨w.heap.size, 0, rfl, ?_⟩
  have hi5 : i < 5 := hi
  iterate 5 (rcases i with _ | i; · constructor <;> simp [kindsI, go_sem])
  omega

end Go.Proofs.Ytohahlnhbppnhaa
