/- Tongue, the reference: do numbers rise. Tongue, the reference: the error of two texts. Tongue, the reference: the error of two texts, whether they are right. -/
import Derived.Test.YtohahlnhbppnhaaAF
namespace Go.Proofs.Ytohahlnhbppnhaa
open Go.RowKit
set_option linter.unusedSimpArgs false
set_option linter.unusedVariables false

theorem below_drewN {B : Nat} {w W : World} (h : Below B w W) (q : Nat) : Below B w (W.drewN q) := ⟨h.os, h.tape, h.output, h.size, h.block⟩

set_option maxHeartbeats 400000 in
theorem in_any (n lo hi : Int) (w : World) : Calls Try.prog 41 #[.int .i64 n, .int .i64 lo, .int .i64 hi] w fun e w' => e = .returned (.bool (inB n lo hi)) ∧ w' = w := by
  have hv : inB n lo hi = (decide (lo ≤ n) && decide (n ≤ hi)) := by unfold inB; by_cases h1 : lo ≤ n <;> by_cases h2 : n ≤ hi <;> simp [h1, h2]
  rw [hv]
  clear hv
  by_cases h1 : lo ≤ n
  · by_cases h2 : n ≤ hi
    · go_enter Try.func41, Try.ntmps41
      go_wp2_with fail
      go_ret
      exact ⟨by simp [h1, h2], rfl⟩
    · go_enter Try.func41, Try.ntmps41
      go_wp2_with fail
      go_ret
      exact ⟨by simp [h2], rfl⟩
  · go_enter Try.func41, Try.ntmps41
    go_wp2_with fail
    go_ret
    exact ⟨by simp; intro h; omega, rfl⟩

/-- Is a number more than the one before it? -/
def stepUp (l : List Int) (i : Nat) : Bool := decide (i = 0) || decide (l.getD (i - 1) 0 < l.getD i 0)

def refRise (l : List Int) : Bool := (List.range l.length).all (stepUp l)

theorem refRise_true {l : List Int} (h : ∀ i, i < l.length → stepUp l i = true) : refRise l = true := by
  unfold refRise
  rw [List.all_eq_true]
  exact fun i hi => h i (List.mem_range.1 hi)

theorem refRise_false {l : List Int} {i : Nat} (hi' : i < l.length) (h : stepUp l i = false) : refRise l = false := by
  cases hv : refRise l
  · rfl
  · unfold refRise at hv
    rw [List.all_eq_true] at hv
    rw [hv i (List.mem_range.2 hi')] at h
    cases h

theorem rising_split (l : List Int) (lo hi : Int) : risingM l lo hi = ((l.all fun x => inB x lo hi) && refRise l) := by
  rw [Bool.eq_iff_iff, Bool.and_eq_true]
  unfold risingM refRise
  rw [List.all_eq_true, List.all_eq_true, List.all_eq_true]
  constructor
  · intro h
    refine ⟨fun x hx => ?_, fun i hi => ?_⟩
    · obtain ⟨i, hi', rfl⟩ := List.mem_iff_getElem.1 hx
      have := h i (List.mem_range.2 hi')
      simp only [riseAt, Bool.and_eq_true] at this
      have h1 := this.1
      rwa [List.getD_eq_getElem?_getD, List.getElem?_eq_getElem hi', Option.getD_some] at h1
    · have := h i hi
      simp only [riseAt, Bool.and_eq_true] at this
      exact this.2
  · rintro ⟨h1, h2⟩ i hi'
    simp only [riseAt, Bool.and_eq_true]
    refine ⟨?_, h2 i hi'⟩
    have hi2 := List.mem_range.1 hi'
    rw [List.getD_eq_getElem?_getD, List.getElem?_eq_getElem hi2, Option.getD_some]
    exact h1 _ (List.getElem_mem _)

set_option maxRecDepth 100000 in
set_option maxHeartbeats 1000000 in
theorem refRise_any (l : List Int) (n cap : Nat) (a : Option Addr) (w : World) (hl : l.length = n) (hn : n ≤ 1000000) (hS : IntsAt w a l) :
    Calls Try.prog 72 #[.slice a n cap] w fun e w' => e = .returned (.bool (refRise l)) ∧ Below w.heap.size w w' := by
  have HL := hid hl
  clear hl
  go_enter Try.func72, Try.ntmps72
  go_wp2_with fail
  go_loopw [3] (fun i wr => ∃ q : Nat, (q + 1 ≤ n ∨ q = 0) ∧ i = .int .i64 ((q + 1 : Nat) : Int) ∧ Hid (∀ i, i < q + 1 → stepUp l i = true) ∧ Below w.heap.size w wr) (fun i _ => n - (intOf i).toNat)
  case atStart => exact ⟨0, .inr rfl, rfl, hid (fun i hi => by have h0 : i = 0 := (by omega); subst h0; rfl), Below.refl _ _⟩
  case round =>
    obtain ⟨q, hq, rfl, HK, hB⟩ := hrel
    by_cases hlt : q + 1 < n
    · have hlt' : ((q + 1 : Nat) : Int) < n := by omega
      obtain ⟨b, off, ea, e1⟩ := hS (q + 1) (by rw [HL.out]; exact hlt)
      subst ea
      obtain ⟨b', off', ea, e2⟩ := hS q (by rw [HL.out]; omega)
      cases ea
      replace e1 := cell_grown hB e1
      replace e2 := cell_grown hB e2
      have gb := lt_of_cell e1
      have hq0 : (0 : Int) < ((q + 1 : Nat) : Int) := by omega
      have hqe : ((q + 1 : Nat) : Int) - 1 = (q : Int) := by omega
      have hqn : q < n := by omega
      have HU : Hid (stepUp l (q + 1) = decide (l.getD q 0 < l.getD (q + 1) 0)) := hid (by unfold stepUp; simp)
      generalize l.getD (q + 1) 0 = x at e1 HU
      generalize l.getD q 0 = y at e2 HU
      by_cases hxy : x ≤ y
      · have hf : refRise l = false := refRise_false (i := q + 1) (by rw [HL.out]; exact hlt) (by rw [HU.out]; simp; omega)
        have HF := hid hf
        clear hf
        go_wp2_with fail
        go_quiet (fail)
        go_wp2_with fail
        go_ret
        exact ⟨by rw [HF.out]; rfl, below_drewN hB _⟩
      · have HR : Hid (stepUp l (q + 1) = true) := hid (by rw [HU.out]; simp; omega)
        go_wp2_with fail
        go_quiet (fail)
        go_wp2_with fail
        go_roundw
        case rel => exact ⟨q + 1, .inl (by omega), by go_num, hid (fun i hi => by
          by_cases e : i = q + 1
          · rw [e]; exact HR.out
          · exact HK.out i (by omega)), below_drewN hB _⟩
        case measure => simp [intOf]; omega
    · have hle : ¬ ((q + 1 : Nat) : Int) < n := by omega
      have hr : refRise l = true := refRise_true (fun i hi => HK.out i (by rw [HL.out] at hi; omega))
      have HR := hid hr
      clear hr
      go_wp2_with fail
      go_ret
      exact ⟨by rw [HR.out]; rfl, hB⟩

end Go.Proofs.Ytohahlnhbppnhaa

namespace Go.Proofs.Ytohahlnhbppnhaa
open Go.RowKit
set_option linter.unusedSimpArgs false
set_option linter.unusedVariables false

theorem Try.info103 : (Try.prog.info? 103).map (fun i => (i.zero, i.size, i.bytes)) = some (some (.agg #[.slice none 0 0, .int .i64 0]), 2, 32) := by kernel_rfl

/-- The cells of a text. -/
def CellsOf (w : World) (T : List Sen) (vs : List Value) : Prop :=
  vs.length = T.length * 2 ∧ ∀ i, i < T.length → ∃ ma mc, vs[i * 2]? = some (.slice ma (T.getD i default).marks.length mc) ∧ vs[i * 2 + 1]? = some (.int .i64 (T.getD i default).size) ∧ IntsAt w ma (T.getD i default).marks

theorem cells_of_text {w : World} {ad : Addr} {T : List Sen} (h : TextAt w (some ad) T) : ∃ vs, CellsOf w T vs ∧ ∀ j u, vs[j]? = some u → w.cell? (ad.add j) = some u := by
  refine ⟨(List.range (T.length * 2)).map fun j => (w.cell? (ad.add j)).getD undef, ⟨by simp, fun i hi => ?_⟩, fun j u hj => ?_⟩
  · obtain ⟨b, off, ma, mc, ea, c1, c2, c3⟩ := h i hi
    simp only [Option.some.injEq] at ea
    subst ea
    have hadd : ∀ j, (⟨b, off, none⟩ : Addr).add j = ⟨b, off + j, none⟩ := fun j => by unfold Addr.add; split <;> simp_all
    refine ⟨ma, mc, ?_, ?_, c3⟩
    · rw [List.getElem?_map, List.getElem?_range (by omega)]
      simp only [Option.map_some, hadd, c1, Option.getD_some]
    · rw [List.getElem?_map, List.getElem?_range (by omega)]
      simp only [Option.map_some, hadd, ← Nat.add_assoc, c2, Option.getD_some]
  · obtain ⟨hl, hu⟩ := List.getElem?_eq_some_iff.1 hj
    simp only [List.length_map, List.length_range] at hl
    simp only [List.getElem_map, List.getElem_range] at hu
    obtain ⟨b, off, ma, mc, ea, c1, c2, c3⟩ := h (j / 2) (by omega)
    simp only [Option.some.injEq] at ea
    subst ea
    have hadd : ∀ j, (⟨b, off, none⟩ : Addr).add j = ⟨b, off + j, none⟩ := fun j => by unfold Addr.add; split <;> simp_all
    rw [hadd] at hu ⊢
    rcases (by omega : j = j / 2 * 2 ∨ j = j / 2 * 2 + 1) with e | e
    · rw [← e] at c1
      rw [c1] at hu ⊢
      rw [← hu]
      rfl
    · rw [Nat.add_assoc, ← e] at c2
      rw [c2] at hu ⊢
      rw [← hu]
      rfl

theorem CellsOf.one {w : World} {T : List Sen} {vs : List Value} (h : CellsOf w T vs) : ∀ u ∈ vs, u.oneCell' = true := by
  intro u hu
  obtain ⟨j, hj, rfl⟩ := List.mem_iff_getElem.1 hu
  obtain ⟨ma, mc, e1, e2, -⟩ := h.2 (j / 2) (by have := h.1; omega)
  rcases (by omega : j = j / 2 * 2 ∨ j = j / 2 * 2 + 1) with e | e
  · rw [← e, List.getElem?_eq_getElem hj] at e1
    simp only [Option.some.injEq] at e1
    rw [e1]
    rfl
  · rw [← e, List.getElem?_eq_getElem hj] at e2
    simp only [Option.some.injEq] at e2
    rw [e2]
    rfl

theorem CellsOf.append {w : World} {L R : List Sen} {vs us : List Value} (h : CellsOf w L vs) (h' : CellsOf w R us) : CellsOf w (L ++ R) (vs ++ us) := by
  have hl := h.1
  refine ⟨by rw [List.length_append, List.length_append, h.1, h'.1]; omega, fun i hi => ?_⟩
  rw [List.length_append] at hi
  by_cases e : i < L.length
  · obtain ⟨ma, mc, e1, e2, e3⟩ := h.2 i e
    have hg : (L ++ R).getD i default = L.getD i default := by rw [List.getD_eq_getElem?_getD, List.getD_eq_getElem?_getD, List.getElem?_append_left e]
    rw [hg]
    exact ⟨ma, mc, by rw [List.getElem?_append_left (by omega)]; exact e1, by rw [List.getElem?_append_left (by omega)]; exact e2, e3⟩
  · obtain ⟨ma, mc, e1, e2, e3⟩ := h'.2 (i - L.length) (by omega)
    have hg : (L ++ R).getD i default = R.getD (i - L.length) default := by rw [List.getD_eq_getElem?_getD, List.getD_eq_getElem?_getD, List.getElem?_append_right (by omega)]
    rw [hg]
    exact ⟨ma, mc, by rw [List.getElem?_append_right (by omega), hl, show i * 2 - L.length * 2 = (i - L.length) * 2 by omega]; exact e1, by rw [List.getElem?_append_right (by omega), hl, show i * 2 + 1 - L.length * 2 = (i - L.length) * 2 + 1 by omega]; exact e2, e3⟩

theorem text_of_cells {w W : World} {base : Nat} {e : TypeId} {a : Option Addr} {n cap : Nat} {T : List Sen} {vs : List Value} (hn : T.length = n) (h : W.ownsRow base e 2 (.slice a n cap) n vs) (hs : CellsOf w T vs) (hB : Below w.heap.size w W) : TextAt W a T := by
  intro i hi
  rcases h.2 with ⟨hv, h0⟩ | ⟨g, cap', cur, hv, _, hg, hnc, _⟩
  · simp only [Value.slice.injEq] at hv
    obtain ⟨-, rfl, -⟩ := hv
    omega
  · simp only [Value.slice.injEq] at hv
    obtain ⟨rfl, -, rfl⟩ := hv
    have hc := h.cells (g := g) rfl
    have hadd : ∀ j, (⟨g, 0, none⟩ : Addr).add j = ⟨g, 0 + j, none⟩ := fun j => by unfold Addr.add; split <;> simp_all
    obtain ⟨ma, mc, e1, e2, e3⟩ := hs.2 i hi
    have c1 := hc _ _ e1
    have c2 := hc _ _ e2
    rw [hadd] at c1 c2
    exact ⟨g, 0, ma, mc, rfl, c1, by rw [Nat.add_assoc]; exact c2, e3.grown hB⟩

/-- A text, appended to a row of the call's own. -/
theorem wpList_append_text {P : Program} {w w0 : World} {ops : Array Oper} {rest : List Oper} {o : Oper} {a : Act} {Q : Exit → Act → World → Prop} (hgd : o.guard = none) (s x : Operand) (t : TypeId)
    (ho : o.op = .call { callee := .builtin .append, args := #[s, x], argTypes := #[t, t] })
    (base : Nat) (e : TypeId) (i : TypeInfo) (ht : P.underlying t = some (.slice e)) (hi : P.info? e = some i) (hz : i.zero = some (.agg #[.slice none 0 0, .int .i64 0])) (hsize : i.size = 2) (hby : i.bytes = 32)
    (v : Value) (n : Nat) (xs : List Value) (hs : a.eval s = v) (hown : w.ownsRow base e 2 v n xs) (za : Option Addr) (m c : Nat) (T : List Sen) (hx : a.eval x = .slice za m c) (hl : T.length = m) (hT : TextAt w0 za T) (hB : Below w0.heap.size w0 w)
    (h63 : n + m ≤ 1000000) (hbase : base ≤ w.heap.size)
    (h : ∀ v' w' us, w'.ownsRow base e 2 v' (n + m) (xs ++ us) → w.grownBy w' v.ownBlock → CellsOf w0 T us → wpList P ops Q rest (a.put o.dst v') w') : wpList P ops Q (o :: rest) a w := by
  cases za with
  | none =>
    have hm : m = 0 := by
      cases m with
      | zero => rfl
      | succ m => obtain ⟨b, off, _, _, e, _⟩ := hT 0 (by omega); simp at e
    subst hm
    have hZ : T = [] := List.eq_nil_of_length_eq_zero hl
    subst hZ
    exact wpList_append_nothing hgd s x t ho base e i 2 c ht hi v n xs hs hown hx (h v w [] (by simpa using hown) (World.grownBy.refl _ _) ⟨rfl, fun i hi => by simp at hi⟩)
  | some ad =>
    obtain ⟨us, hus, hnews⟩ := cells_of_text hT
    have hnews' : ∀ j u, us[j]? = some u → w.cell? (ad.add j) = some u := fun j u hj => by
      have hc := hnews j u hj
      have hlt := World.block_lt_of_cell? w0 _ hc
      obtain ⟨b, off, _, _, ea, _⟩ := hT (j / 2) (by
        obtain ⟨h1, _⟩ := List.getElem?_eq_some_iff.1 hj
        have := hus.1
        omega)
      simp only [Option.some.injEq] at ea
      subst ea
      have hadd : (⟨b, off, none⟩ : Addr).add j = ⟨b, off + j, none⟩ := by unfold Addr.add; split <;> simp_all
      rw [hadd] at hc ⊢
      exact cell_grown hB hc
    exact wpList_append_own_at w hgd s x t ho base e i (.agg #[.slice none 0 0, .int .i64 0]) 2 32 ht hi hz hsize hby rfl (by decide) v n xs hs hown ad m c us hx (by rw [hus.1, hl]) hnews' hus.one (by unfold maxLen; omega) (by omega) hbase (fun v' w' h1 h2 _ _ => h v' w' us h1 h2 hus)

end Go.Proofs.Ytohahlnhbppnhaa

namespace Go.Proofs.Ytohahlnhbppnhaa
open Go.RowKit
set_option linter.unusedSimpArgs false
set_option linter.unusedVariables false

theorem fault_of {L R : List Sen} (h1 : L.length ≤ 20) (h2 : R.length ≤ 20) (hl : (L ++ R).all limS = true) : faultM L R = if (L ++ R).all valS then 0 else 1 := by
  unfold faultM limT valT
  rw [List.all_append] at hl ⊢
  simp only [Bool.and_eq_true] at hl
  rw [hl.1, hl.2]
  simp [h1, h2]

theorem fault_long {L R : List Sen} (h : ¬ (L.length ≤ 20 ∧ R.length ≤ 20)) : faultM L R = 3 := by
  unfold faultM limT
  by_cases h1 : L.length ≤ 20
  · have h2 : ¬ R.length ≤ 20 := fun h2 => h ⟨h1, h2⟩
    simp [h2]
  · simp [h1]

theorem fault_marks {L R : List Sen} (hl : (L ++ R).all limS = false) : faultM L R = 3 := by
  unfold faultM limT
  rw [List.all_append] at hl
  cases h1 : L.all limS
  · simp
  · rw [h1] at hl
    simp only [Bool.true_and] at hl
    simp [hl]

theorem valS_split (s : Sen) : valS s = ((s.marks.all fun x => inB x 0 999) && (refRise s.marks && inB s.size 1 200)) := by
  unfold valS
  rw [rising_split, Bool.and_assoc]

set_option maxRecDepth 100000 in
set_option maxHeartbeats 4000000 in
theorem refFault_any (L R : List Sen) (n m nc mc : Nat) (la ra : Option Addr) (w : World) (hL : L.length = n) (hR : R.length = m) (hn : n ≤ 1000) (hm : m ≤ 1000) (kL : ∀ s ∈ L, s.marks.length ≤ 1000) (kR : ∀ s ∈ R, s.marks.length ≤ 1000) (hS : TextAt w la L) (hT : TextAt w ra R) :
    Calls Try.prog 51 #[.slice la n nc, .slice ra m mc] w fun e w' => e = .returned (.int .i64 (faultM L R)) ∧ Below w.heap.size w w' := by
  obtain ⟨i0, hi0, hz0, hz1, hz2⟩ := info_parts Try.info103
  by_cases h1 : n ≤ 20
  · by_cases h2 : m ≤ 20
    · have h1' : ¬ (20 : Int) < (n : Int) := by omega
      have h2' : ¬ (20 : Int) < (m : Int) := by omega
      have hown0 := World.ownsRow_made (base := w.heap.size) (e := 103) (size := 2) w #[] 0 (Nat.le_refl _) (Nat.zero_le _) rfl
      have hb0 := below_alloc w (.cells #[] 103)
      have HFO : Hid ((L ++ R).all limS = true → faultM L R = if (L ++ R).all valS then 0 else 1) := hid (fun hl => fault_of (by omega) (by omega) hl)
      have hTl : (L ++ R).length = n + m := by rw [List.length_append, hL, hR]
      have HL := hid hL
      have HR := hid hR
      have KM : Hid (∀ s ∈ L ++ R, s.marks.length ≤ 1000) := hid (fun s hs => by
        rcases List.mem_append.1 hs with h | h
        · exact kL s h
        · exact kR s h)
      have HTL := hid hTl
      clear hL hR kL kR hTl h1 h2
      go_enter Try.func51, Try.ntmps51
      go_wp2_with (first | (at_builtin; refine wpList_append_text (w0 := w) rfl _ _ 22 rfl w.heap.size 103 i0 Try.underlying22 hi0 hz0 hz1 hz2 _ 0 _ rfl hown0 la n nc L rfl HL.out hS hb0 (by omega) hb0.size ?_; intro v1 w1 us hown1 hg1 hus; have hg1' : (w.alloc (.cells #[] 103)).grownBy w1 (some w.heap.size) := hg1; have hb1 : Below w.heap.size w w1 := hb0.grown hg1' hb0.size (fun r e => by cases e; exact Nat.le_refl _); have hz1' := hb1.size; clear hg1 hg1') | (at_builtin; refine wpList_append_text (w0 := w) rfl _ _ 22 rfl w.heap.size 103 i0 Try.underlying22 hi0 hz0 hz1 hz2 _ (0 + n) _ rfl hown1 ra m mc R rfl HR.out hT hb1 (by omega) hz1' ?_; intro v2 w2 us2 hown2 hg2 hus2; have hb2 : Below w.heap.size w w2 := hb1.grown hg2 hb1.size (fun r e => (hown1.lt r e).1); clear hg2))
      rw [Nat.zero_add] at hown2
      have hcs := (hus.append hus2)
      rw [List.nil_append] at hown2
      obtain ⟨ta, tc, rfl⟩ := owns_shape hown2
      have htx := text_of_cells HTL.out hown2 hcs hb2
      obtain ⟨N, hN⟩ : ∃ N, N = n + m := ⟨_, rfl⟩
      rw [← hN] at HTL
      have hNb : N ≤ 2000 := by omega
      simp only [← hN]
      obtain ⟨T, hTT⟩ : ∃ T, T = L ++ R := ⟨_, rfl⟩
      rw [← hTT] at HFO KM HTL htx
      have HFM : Hid (T.all limS = false → faultM L R = 3) := hid (by rw [hTT]; exact fault_marks)
      clear hTT hcs hown1 hown2 hus hus2 hN hown0 hb0 hS hT hb1 HL HR h1' h2'
      go_loopw [6] (fun i wr => ∃ j : Nat, j ≤ N ∧ i = .int .i64 j ∧ Hid (∀ i, i < j → limS (T.getD i default) = true) ∧ wr = w2) (fun i _ => N - (intOf i).toNat)
      case atStart => exact ⟨0, Nat.zero_le _, rfl, hid (fun i hi => by omega), rfl⟩
      case round =>
        obtain ⟨j, hj, rfl, HK, rfl⟩ := hrel
        by_cases hlt : j < N
        · have hlt' : (j : Int) < N := by omega
          obtain ⟨b, off, ma, c, ea, e1, -, e3⟩ := htx j (by rw [HTL.out]; exact hlt)
          subst ea
          obtain ⟨k, hk⟩ : ∃ k, (T.getD j default).marks.length = k := ⟨_, rfl⟩
          rw [hk] at e1
          have HF : Hid (limS (T.getD j default) = decide (k ≤ 12)) := hid (by unfold limS; rw [hk])
          clear e3 hk
          by_cases h15 : k ≤ 12
          · have h15' : ¬ (12 : Int) < (k : Int) := by omega
            have HV : Hid (limS (T.getD j default) = true) := hid (by rw [HF.out]; simp [h15])
            clear h15
            go_wp2_with fail
            go_roundw
            case rel => exact ⟨j + 1, by omega, by go_num, hid (fun i hi => by
              by_cases e : i = j
              · subst e; exact HV.out
              · exact HK.out i (by omega)), by trivial⟩
            case measure => simp [intOf]; omega
          · have h15' : (12 : Int) < (k : Int) := by omega
            have HX : Hid (faultM L R = 3) := hid (HFM.out (allS_false (i := j) (by rw [HTL.out]; exact hlt) (by rw [HF.out]; simp [h15])))
            clear h15
            go_wp2_with fail
            go_ret
            exact ⟨by rw [HX.out]; rfl, hb2⟩
        · have hjn : j = N := by omega
          subst hjn
          have HX : Hid (faultM L R = if T.all valS then 0 else 1) := hid (HFO.out (allS_true (fun i hi => HK.out i (by rw [← HTL.out]; exact hi))))
          clear HFO HFM HK
          go_wp2_with fail
          have HONE : Hid (∀ i, i < j → valS (T.getD i default) = false → faultM L R = 1) := hid (fun i hi hv => by
            rw [HX.out, allS_false (i := i) (by rw [HTL.out]; exact hi) hv]
            rfl)
          have HZERO : Hid ((∀ i, i < j → valS (T.getD i default) = true) → faultM L R = 0) := hid (fun h => by
            rw [HX.out, allS_true (fun i hi => h i (by rw [← HTL.out]; exact hi))]
            rfl)
          clear HX
          go_loopw [7, 8] (fun i _ wr2 => ∃ p : Nat, p ≤ j ∧ i = .int .i64 p ∧ Hid (∀ i, i < p → valS (T.getD i default) = true) ∧ Below wr.heap.size wr wr2) (fun i _ _ => j - (intOf i).toNat)
          case atStart => exact ⟨0, Nat.zero_le _, rfl, hid (fun i hi => by omega), Below.refl _ _⟩
          case round =>
            obtain ⟨p, hp, rfl, HP, hB⟩ := hrel
            have hbA := below_then hb2 hB
            by_cases hlp : p < j
            · have hlp' : (p : Int) < j := by omega
              obtain ⟨b, off, ma, c, ea, e1, e2, e3⟩ := htx p (by rw [HTL.out]; exact hlp)
              subst ea
              replace e1 := cell_grown hB e1
              replace e2 := cell_grown hB e2
              replace e3 := e3.grown hB
              have ge := lt_of_cell e1
              have HVS : Hid (valS (T.getD p default) = (((T.getD p default).marks.all fun x => inB x 0 999) && (refRise (T.getD p default).marks && inB (T.getD p default).size 1 200))) := hid (valS_split _)
              have hk1 := KM.out _ (sen_mem (T := T) (i := p) (by rw [HTL.out]; exact hlp))
              have HSZ := hid hj
              generalize (T.getD p default).size = z at e2 HVS
              generalize (T.getD p default).marks = M at e1 e3 HVS hk1
              obtain ⟨k, hk⟩ : ∃ k, M.length = k := ⟨_, rfl⟩
              rw [hk] at e1 hk1
              have HK := hid hk
              have hri := fun W hb => refRise_any M k c ma W hk (by omega) (e3.grown hb)
              clear hk
              go_wp2_with fail
              go_loopw [8] (fun i wr3 => ∃ q : Nat, q ≤ k ∧ i = .int .i64 q ∧ Hid (∀ i, i < q → inB (M.getD i 0) 0 999 = true) ∧ wr3 = wr) (fun i _ => k - (intOf i).toNat)
              case atStart => exact ⟨0, Nat.zero_le _, rfl, hid (fun i hi => by omega), rfl⟩
              case round =>
                obtain ⟨q, hq, rfl, HQ, rfl⟩ := hrel
                by_cases hlq : q < k
                · have hlq' : (q : Int) < k := by omega
                  obtain ⟨b', off', ea, c1⟩ := e3 q (by rw [HK.out]; exact hlq)
                  subst ea
                  have hin := fun W => in_any (M.getD q 0) 0 999 W
                  obtain ⟨r, hr⟩ : ∃ r, inB (M.getD q 0) 0 999 = r := ⟨_, rfl⟩
                  rw [hr] at hin
                  have HRR := hid hr
                  clear hr
                  obtain ⟨x, hx⟩ : ∃ x, M.getD q 0 = x := ⟨_, rfl⟩
                  rw [hx] at c1
                  simp only [hx] at hin
                  have HXX := hid hx
                  clear hx
                  cases hv : r
                  · subst hv
                    have HX : Hid (faultM L R = 1) := hid (HONE.out p hlp (by
                      have hf : (M.all fun x => inB x 0 999) = false := by
                        rw [← Bool.not_eq_true, List.all_eq_true]
                        intro h
                        have hlM : q < M.length := by rw [HK.out]; exact hlq
                        have := h (M[q]'hlM) (List.getElem_mem _)
                        have h2 := HRR.out
                        rw [List.getD_eq_getElem?_getD, List.getElem?_eq_getElem hlM, Option.getD_some] at h2
                        rw [h2] at this
                        cases this
                      rw [HVS.out, hf]
                      rfl))
                    go_wp2_with (go_at_call 41; refine (hin _).mono ?_; rintro e w' ⟨rfl, rfl⟩)
                    go_ret
                    exact ⟨by rw [HX.out]; rfl, hbA⟩
                  · subst hv
                    have HV : Hid (inB (M.getD q 0) 0 999 = true) := HRR
                    go_wp2_with (go_at_call 41; refine (hin _).mono ?_; rintro e w' ⟨rfl, rfl⟩)
                    go_roundw
                    case rel => exact ⟨q + 1, by omega, by go_num, hid (fun i hi => by
                      by_cases e : i = q
                      · subst e; exact HV.out
                      · exact HQ.out i (by omega)), by trivial⟩
                    case measure => simp [intOf]; omega
                · have hqk : q = k := by omega
                  subst hqk
                  have hall : (M.all fun x => inB x 0 999) = true := by
                    rw [List.all_eq_true]
                    intro x hx
                    obtain ⟨i, hi, rfl⟩ := List.mem_iff_getElem.1 hx
                    have := HQ.out i (by rw [← HK.out]; exact hi)
                    rwa [List.getD_eq_getElem?_getD, List.getElem?_eq_getElem hi, Option.getD_some] at this
                  have HV2 : Hid (valS (T.getD p default) = (refRise M && inB z 1 200)) := hid (by rw [HVS.out, hall, Bool.true_and])
                  clear hall HVS
                  obtain ⟨r1, hr1⟩ : ∃ r, refRise M = r := ⟨_, rfl⟩
                  obtain ⟨r2, hr2⟩ : ∃ r, inB z 1 200 = r := ⟨_, rfl⟩
                  have hin := fun W => in_any z 1 200 W
                  rw [hr2] at hin HV2
                  rw [hr1] at hri HV2
                  clear hr1 hr2
                  cases r1
                  · have HX : Hid (faultM L R = 1) := hid (HONE.out p hlp (by rw [HV2.out]; rfl))
                    go_wp2_with (go_at_call 72; refine (hri _ (Below.refl _ _)).mono ?_; rintro e w' ⟨rfl, hb'⟩)
                    go_ret
                    exact ⟨by rw [HX.out]; rfl, below_then hbA hb'⟩
                  · cases r2
                    · have HX : Hid (faultM L R = 1) := hid (HONE.out p hlp (by rw [HV2.out]; rfl))
                      go_wp2_with (first | (go_at_call 72; refine (hri _ (Below.refl _ _)).mono ?_; rintro e w' ⟨rfl, hb'⟩; replace e2 := cell_grown hb' e2) | (go_at_call 41; refine (hin _).mono ?_; rintro e w'' ⟨rfl, rfl⟩))
                      go_ret
                      exact ⟨by rw [HX.out]; rfl, below_then hbA hb'⟩
                    · have HV : Hid (valS (T.getD p default) = true) := hid (by rw [HV2.out]; rfl)
                      go_wp2_with (first | (go_at_call 72; refine (hri _ (Below.refl _ _)).mono ?_; rintro e w' ⟨rfl, hb'⟩; replace e2 := cell_grown hb' e2) | (go_at_call 41; refine (hin _).mono ?_; rintro e w'' ⟨rfl, rfl⟩))
                      go_roundw
                      case rel => exact ⟨p + 1, by omega, by go_num, hid (fun i hi => by
                        by_cases e : i = p
                        · subst e; exact HV.out
                        · exact HP.out i (by omega)), below_then hB hb'⟩
                      case measure => simp [intOf]; omega
            · have hpj : p = j := by omega
              subst hpj
              have HX : Hid (faultM L R = 0) := hid (HZERO.out (fun i hi => HP.out i hi))
              go_wp2_with fail
              go_ret
              exact ⟨by rw [HX.out]; rfl, hbA⟩
    · have h2' : (20 : Int) < (m : Int) := by omega
      have h1' : ¬ (20 : Int) < (n : Int) := by omega
      have HF : Hid (faultM L R = 3) := hid (fault_long (by rw [hL, hR]; omega))
      clear hL hR
      go_enter Try.func51, Try.ntmps51
      go_wp2_with fail
      go_ret
      exact ⟨by rw [HF.out]; rfl, Below.refl _ _⟩
  · have h1' : (20 : Int) < (n : Int) := by omega
    have HF : Hid (faultM L R = 3) := hid (fault_long (by rw [hL, hR]; omega))
    clear hL hR
    go_enter Try.func51, Try.ntmps51
    go_wp2_with fail
    go_ret
    exact ⟨by rw [HF.out]; rfl, Below.refl _ _⟩

end Go.Proofs.Ytohahlnhbppnhaa
