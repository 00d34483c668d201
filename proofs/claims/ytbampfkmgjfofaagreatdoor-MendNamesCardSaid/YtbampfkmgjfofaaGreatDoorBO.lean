/- Mend, the laws: which texts are right by the reference; whether lists are short. Mend, the laws: a list of texts in new memory: texts. -/
import Derived.Test.YtbampfkmgjfofaaGreatDoorBM
namespace Go.Proofs.YtbampfkmgjfofaaGreatDoor
open Go.RowKit

theorem textOk_byte {s : Tx} {k : Nat} (hk : k < s.size) (h : byteOk (s.data[k]!.toNat : Int) = false) : textOk s = false := by
  unfold textOk
  rw [Bool.and_eq_false_iff]
  right
  rw [List.all_eq_false]
  have hk' : k < s.data.size := hk
  refine ⟨s.data[k]!, ?_, by rw [h]; simp⟩
  rw [getElem!_pos s.data k hk']
  exact Array.mem_toList_iff.2 (Array.getElem_mem hk')

theorem textOk_all {s : Tx} (h : ∀ k, k < s.size → byteOk (s.data[k]!.toNat : Int) = true) : textOk s = inB s.size 1 32 := by
  unfold textOk
  have e : (s.data.toList.all fun b => byteOk b.toNat) = true := by
    rw [List.all_eq_true]
    intro b hb
    obtain ⟨k, hk, rfl⟩ := Array.mem_iff_getElem.1 (Array.mem_toList_iff.1 hb)
    have := h k hk
    rwa [getElem!_pos s.data k hk] at this
  rw [e, Bool.and_true]

set_option maxRecDepth 100000 in
set_option maxHeartbeats 2000000 in
theorem refText_any (s : Tx) (w : World) (hs : s.size ≤ 1000) :
    Calls Tryz.prog 54 #[.string s] w fun e w' => e = .returned (.bool (textOk s)) ∧ Below w.heap.size w w' := by
  obtain ⟨z, hz⟩ : ∃ z, textOk s = z := ⟨_, rfl⟩
  rw [hz]
  have HZ := hid hz
  clear hz
  go_enter Tryz.func54, Tryz.ntmps54
  go_wp2_with fail
  go_loopw [3] (fun i wr => ∃ k : Nat, k ≤ s.size ∧ i = .int .i64 k ∧ Hid (∀ j, j < k → byteOk (s.data[j]!.toNat : Int) = true) ∧ wr = w) (fun i _ => s.size - (intOf i).toNat)
  case atStart => exact ⟨0, Nat.zero_le _, rfl, hid (fun j h => by omega), rfl⟩
  case round =>
    obtain ⟨k, hk, rfl, HF, rfl⟩ := hrel
    by_cases hlt : k < s.size
    · have hlt' : (k : Int) < (s.size : Int) := by omega
      have hby : ((s[k]'hlt).toNat : Int) = (s.data[k]!.toNat : Int) := by rw [getElem!_pos s.data k hlt]; rfl
      have HBY := hid hby
      clear hby
      by_cases h1 : ((s[k]'hlt).toNat : Int) < 33
      · have hzf : z = false := by rw [← HZ.out]; exact textOk_byte hlt (by rw [← HBY.out]; unfold byteOk inB; simp; omega)
        go_wp2
        go_ret
        exact ⟨by first | rfl | (rw [hzf]; rfl), Below.refl _ _⟩
      · by_cases h2 : 126 < ((s[k]'hlt).toNat : Int)
        · have hzf : z = false := by rw [← HZ.out]; exact textOk_byte hlt (by rw [← HBY.out]; unfold byteOk inB; simp; omega)
          go_wp2
          go_ret
          exact ⟨by first | rfl | (rw [hzf]; rfl), Below.refl _ _⟩
        · have hk2 : byteOk (s.data[k]!.toNat : Int) = true := by rw [← HBY.out]; unfold byteOk inB; simp; omega
          have HK2 := hid hk2
          clear hk2
          go_wp2
          go_roundw
          case rel => exact ⟨k + 1, by omega, by go_num, hid (fun j hj => by
            by_cases e : j = k
            · subst e; exact HK2.out
            · exact HF.out j (by omega)), by first | rfl | trivial⟩
          case measure => simp [intOf]; omega
    · have hlt' : ¬ (k : Int) < (s.size : Int) := by omega
      have hkn : k = s.size := by omega
      have hzt : z = inB s.size 1 32 := by rw [← HZ.out]; exact textOk_all (fun j hj => HF.out j (by omega))
      clear HF
      go_wp2_with (go_at_call 49; refine (rin_any _ _ _ _).mono ?_; rintro e w' ⟨rfl, rfl⟩)
      go_ret
      exact ⟨by first | rfl | (rw [hzt]; rfl), Below.refl _ _⟩

set_option maxRecDepth 100000 in
set_option maxHeartbeats 2000000 in
theorem refTexts_any (L : List Tx) (most : Int) (n cap : Nat) (a : Option Addr) (w : World) (hL : L.length = n) (hn : n ≤ maxLen) (hS : Strs w a L) (hs : ∀ t ∈ L, t.size ≤ 1000) :
    Calls Tryz.prog 55 #[.slice a n cap, .int .i64 most] w fun e w' => e = .returned (.bool (L.all textOk && decide ((n : Int) ≤ most))) ∧ Below w.heap.size w w' := by
  unfold maxLen at hn
  obtain ⟨z, hz⟩ : ∃ z, (L.all textOk && decide ((n : Int) ≤ most)) = z := ⟨_, rfl⟩
  rw [hz]
  have HZ := hid hz
  have HL := hid hL
  clear hz hL
  go_enter Tryz.func55, Tryz.ntmps55
  go_wp2_with fail
  go_loopw [5] (fun i wr => ∃ k : Nat, k ≤ n ∧ i = .int .i64 k ∧ Hid (∀ j, j < k → textOk (L.getD j .empty) = true) ∧ Below w.heap.size w wr) (fun i _ => n - (intOf i).toNat)
  case atStart => exact ⟨0, Nat.zero_le _, rfl, hid (fun j h => by omega), Below.refl _ _⟩
  case round =>
    obtain ⟨k, hk, rfl, HF, hb⟩ := hrel
    by_cases hlt : k < n
    · have hlt' : (k : Int) < (n : Int) := by omega
      obtain ⟨b, off, rfl, e0⟩ := hS k (by rw [HL.out]; exact hlt)
      replace e0 := cell_grown hb e0
      have gb := lt_of_cell e0
      have hmem : L.getD k .empty ∈ L := by
        rw [List.getD_eq_getElem?_getD, List.getElem?_eq_getElem (by rw [HL.out]; exact hlt), Option.getD_some]
        exact List.getElem_mem _
      have hsz := hs _ hmem
      obtain ⟨s, hs'⟩ : ∃ s, L.getD k .empty = s := ⟨_, rfl⟩
      rw [hs'] at e0 hmem hsz
      have HSX := hid hs'
      clear hs'
      have hcall := refText_any s wr hsz
      cases hx : textOk s
      · have hzf : z = false := by
          rw [← HZ.out, Bool.and_eq_false_iff]
          left
          rw [List.all_eq_false]
          exact ⟨s, hmem, by rw [hx]; simp⟩
        rw [hx] at hcall
        clear hx hmem
        go_wp2_with (go_at_call 54; refine hcall.mono ?_; rintro e w' ⟨rfl, hb'⟩)
        go_ret
        exact ⟨by first | rfl | (rw [hzf]; rfl), below_then hb hb'⟩
      · have HX := hid hx
        rw [hx] at hcall
        clear hx hmem
        go_wp2_with (go_at_call 54; refine hcall.mono ?_; rintro e w' ⟨rfl, hb'⟩)
        go_roundw
        case rel => exact ⟨k + 1, by omega, by go_num, hid (fun j hj => by
          by_cases e : j = k
          · subst e; rw [HSX.out]; exact HX.out
          · exact HF.out j (by omega)), below_then hb hb'⟩
        case measure => simp [intOf]; omega
    · have hlt' : ¬ (k : Int) < (n : Int) := by omega
      have hkn : k = n := by omega
      have hzt : decide ((n : Int) ≤ most) = z := by
        rw [← HZ.out]
        have e : L.all textOk = true := by
          rw [← allN_list L .empty textOk, HL.out]
          exact (allN_of n _).2 (fun i hi => HF.out i (by omega))
        rw [e, Bool.true_and]
      have HZT := hid hzt
      clear HF hzt hkn
      go_wp2
      go_ret
      exact ⟨by rw [← HZT.out]; rfl, hb⟩

/-- Are there at most so many texts, each of at most 40 bytes? -/
def shortM (L : List Tx) (most : Int) : Bool := (L.all fun t => decide (t.size ≤ 40)) && decide ((L.length : Int) ≤ most)

set_option maxRecDepth 100000 in
set_option maxHeartbeats 2000000 in
theorem short_any (L : List Tx) (most : Int) (n cap : Nat) (a : Option Addr) (w : World) (hL : L.length = n) (hn : n ≤ maxLen) (hS : Strs w a L) :
    Calls Tryz.prog 16 #[.slice a n cap, .int .i64 most] w fun e w' => e = .returned (.bool (shortM L most)) ∧ Below w.heap.size w w' := by
  unfold maxLen at hn
  obtain ⟨z, hz⟩ : ∃ z, shortM L most = z := ⟨_, rfl⟩
  rw [hz]
  have HZ : Hid (((L.all fun t => decide (t.size ≤ 40)) && decide ((n : Int) ≤ most)) = z) := hid (by rw [← hz, shortM, hL])
  have HL := hid hL
  clear hz hL
  go_enter Tryz.func16, Tryz.ntmps16
  go_wp2_with fail
  go_loopw [5] (fun i wr => ∃ k : Nat, k ≤ n ∧ i = .int .i64 k ∧ Hid (∀ j, j < k → (L.getD j .empty).size ≤ 40) ∧ wr = w) (fun i _ => n - (intOf i).toNat)
  case atStart => exact ⟨0, Nat.zero_le _, rfl, hid (fun j h => by omega), rfl⟩
  case round =>
    obtain ⟨k, hk, rfl, HF, rfl⟩ := hrel
    by_cases hlt : k < n
    · have hlt' : (k : Int) < (n : Int) := by omega
      obtain ⟨b, off, rfl, e0⟩ := hS k (by rw [HL.out]; exact hlt)
      have gb := lt_of_cell e0
      obtain ⟨s, hs⟩ : ∃ s, L.getD k .empty = s := ⟨_, rfl⟩
      rw [hs] at e0
      have HSX := hid hs
      clear hs
      by_cases h40 : s.size ≤ 40
      · have h40' : ¬ (40 : Int) < (s.size : Int) := by omega
        have H40 := hid h40
        clear h40
        go_wp2
        go_roundw
        case rel => exact ⟨k + 1, by omega, by go_num, hid (fun j hj => by
          by_cases e : j = k
          · subst e; rw [HSX.out]; exact H40.out
          · exact HF.out j (by omega)), by first | rfl | trivial⟩
        case measure => simp [intOf]; omega
      · have h40' : (40 : Int) < (s.size : Int) := by omega
        have hzf : z = false := by
          rw [← HZ.out, Bool.and_eq_false_iff]
          left
          rw [List.all_eq_false]
          refine ⟨L.getD k .empty, ?_, by rw [HSX.out]; simpa using h40⟩
          rw [List.getD_eq_getElem?_getD, List.getElem?_eq_getElem (by rw [HL.out]; exact hlt), Option.getD_some]
          exact List.getElem_mem _
        clear h40
        go_wp2
        go_ret
        exact ⟨by first | rfl | (rw [hzf]; rfl), Below.refl _ _⟩
    · have hlt' : ¬ (k : Int) < (n : Int) := by omega
      have hkn : k = n := by omega
      have hzt : decide ((n : Int) ≤ most) = z := by
        rw [← HZ.out]
        have e : (L.all fun t => decide (t.size ≤ 40)) = true := by
          rw [← allN_list L .empty (fun t => decide (t.size ≤ 40)), HL.out]
          exact (allN_of n _).2 (fun i hi => by simpa using HF.out i (by omega))
        rw [e, Bool.true_and]
      have HZT := hid hzt
      clear HF hzt hkn
      go_wp2
      go_ret
      exact ⟨by rw [← HZT.out]; rfl, Below.refl _ _⟩

end Go.Proofs.YtbampfkmgjfofaaGreatDoor

namespace Go.Proofs.YtbampfkmgjfofaaGreatDoor
open Go.RowKit

theorem run_append_none {P : Program} {w : World} (base : Nat) (t ty e : TypeId) (i : TypeInfo) (size c : Nat) (ht : P.underlying t = some (.slice e)) (hi : P.info? e = some i)
    (v : Value) (n : Nat) (xs : List Value) (hown : w.ownsRow base e size v n xs) :
    (Builtin.append_ #[t, t] ty #[v, .slice none 0 c]).run P w = .ok v w := by
  rcases hown.2 with ⟨rfl, rfl⟩ | ⟨g, cap, cur, rfl, _, _, hnc, _⟩
  · simp [Builtin.append_, run_underlying ht, sizeOf, typeInfo, hi, Builtin.lenOf, Builtin.firstCells]
  · simp [Builtin.append_, run_underlying ht, sizeOf, typeInfo, hi, Builtin.lenOf, Builtin.firstCells, hnc, storeCells]

theorem wpList_append_none {P : Program} {w : World} {ops : Array Oper} {rest : List Oper} {o : Oper} {a : Act} {Q : Exit → Act → World → Prop} (hgd : o.guard = none) (s x : Operand) (t : TypeId)
    (ho : o.op = .call { callee := .builtin .append, args := #[s, x], argTypes := #[t, t] })
    (base : Nat) (e : TypeId) (i : TypeInfo) (size c : Nat) (ht : P.underlying t = some (.slice e)) (hi : P.info? e = some i)
    (v : Value) (n : Nat) (xs : List Value) (hs : a.eval s = v) (hown : w.ownsRow base e size v n xs) (hx : a.eval x = .slice none 0 c)
    (h : wpList P ops Q rest (a.put o.dst v) w) : wpList P ops Q (o :: rest) a w := by
  refine wpList_plain hgd fun K hK => ?_
  have hrun := run_append_none (P := P) (w := w) base t o.type e i size c ht hi v n xs hown
  unfold Oper.wp
  simp [execOp, ho, resolve, invoke, builtin, hs, hx, hrun, Result.andThen]
  exact hK _ _ h

/-- A list of texts, appended to a slice of the call's own, wherever it lies. -/
theorem wpList_append_strs {P : Program} {w : World} {ops : Array Oper} {rest : List Oper} {o : Oper} {a : Act} {Q : Exit → Act → World → Prop} (hgd : o.guard = none) (s x : Operand) (t : TypeId)
    (ho : o.op = .call { callee := .builtin .append, args := #[s, x], argTypes := #[t, t] })
    (base : Nat) (i : TypeInfo) (ht : P.underlying t = some (.slice 9)) (hi : P.info? 9 = some i) (hz : i.zero = some (.string .empty)) (hsize : i.size = 1) (hby : i.bytes = 16)
    (v : Value) (n : Nat) (xs : List Value) (hs : a.eval s = v) (hown : w.ownsRow base 9 1 v n xs) (za : Option Addr) (m c : Nat) (Z : List Tx) (hx : a.eval x = .slice za m c) (hl : Z.length = m) (hI : Strs w za Z)
    (h63 : n + m ≤ 1000000) (hbase : base ≤ w.heap.size)
    (h : ∀ v' w', w'.ownsRow base 9 1 v' (n + m) (xs ++ flatV strC Z) → w.grownBy w' v.ownBlock → wpList P ops Q rest (a.put o.dst v') w') : wpList P ops Q (o :: rest) a w := by
  cases za with
  | none =>
    have hm : m = 0 := by
      cases m with
      | zero => rfl
      | succ m => obtain ⟨b, off, e, _⟩ := hI 0 (by omega); simp at e
    subst hm
    have hZ : Z = [] := List.eq_nil_of_length_eq_zero hl
    subst hZ
    exact wpList_append_none hgd s x t ho base 9 i 1 c ht hi v n xs hs hown hx (h v w (by simpa [flatV] using hown) (World.grownBy.refl _ _))
  | some ad =>
    have hfl : (flatV strC Z).length = m * 1 := by rw [flatV_length (k := 1) (fun _ => rfl), hl]
    have hnews : ∀ j u, (flatV strC Z)[j]? = some u → w.cell? (ad.add j) = some u := by
      intro j u hj
      have hjl : j < Z.length := by
        obtain ⟨h1, _⟩ := List.getElem?_eq_some_iff.1 hj
        rw [hfl] at h1
        omega
      obtain ⟨b, off, e, hcl⟩ := hI j hjl
      simp only [Option.some.injEq] at e
      subst e
      have hadd : (⟨b, off, none⟩ : Addr).add j = ⟨b, off + j, none⟩ := by unfold Addr.add; split <;> simp_all
      have hg := flatV_get (f := strC) (k := 1) (fun _ => rfl) Z .empty j 0 hjl (by omega)
      rw [Nat.mul_one, Nat.add_zero, hj] at hg
      rw [hadd, hcl]
      exact hg.symm
    exact wpList_append_own w hgd s x t ho base 9 i (.string .empty) 1 16 ht hi hz hsize hby rfl (by decide) v n xs hs hown ad m c (flatV strC Z) hx hfl hnews (fun x hx => by
      obtain ⟨y, _, hy⟩ := List.mem_flatMap.1 hx
      simp only [strC, List.mem_singleton] at hy
      subst hy
      rfl) (by unfold maxLen; omega) (by omega) hbase fun v' w' h1 h2 _ => h v' w' h1 h2

/-- What texts returns, with its memory. -/
def CopyPost (L : List Tx) (n : Nat) (w : World) (e : Ending) (w' : World) : Prop :=
  ∃ ra rc, e = .returned (.slice ra n rc) ∧ w'.ownsRow w.heap.size 9 1 (.slice ra n rc) n (flatV strC L) ∧ Strs w' ra L ∧ Below w.heap.size w w'

set_option maxRecDepth 100000 in
set_option maxHeartbeats 1000000 in
theorem copy_any (L : List Tx) (n cap : Nat) (a : Option Addr) (w : World) (hL : L.length = n) (hn : n ≤ 1000000) (hS : Strs w a L) : Calls Tryz.prog 21 #[.slice a n cap] w (CopyPost L n w) := by
  obtain ⟨i0, hi, hz0, hz1, hz2⟩ := info_parts Tryz.info9
  have hown := World.ownsRow_nil (w := w) w.heap.size 9 1
  have HL := hid hL
  clear hL
  go_enter Tryz.func21, Tryz.ntmps21
  go_wp2_with (at_builtin; refine wpList_append_strs rfl _ _ 24 rfl w.heap.size i0 Tryz.underlying24 hi hz0 hz1 hz2 _ 0 _ rfl hown a n cap L rfl HL.out hS (by omega) (Nat.le_refl _) ?_; intro v' w' hown' hg)
  rw [Nat.zero_add, List.nil_append] at hown'
  obtain ⟨ra, rc, rfl⟩ := owns_shape hown'
  have hg' : w.grownBy w' (Value.slice none 0 0).ownBlock := hg
  have hb : Below w.heap.size w w' := Below.grown (Below.refl _ _) hg' (Nat.le_refl _) (fun k hk => by cases hk)
  have HO := hid hown'
  clear hown' hg hg'
  go_ret
  exact ⟨ra, rc, rfl, HO.out, strs_of_ownsN HO.out HL.out, hb⟩

end Go.Proofs.YtbampfkmgjfofaaGreatDoor
