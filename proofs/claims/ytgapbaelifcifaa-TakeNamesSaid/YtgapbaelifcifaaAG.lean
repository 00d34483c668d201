/- Contract of the search. -/
import Derived.Test.YtgapbaelifcifaaAF
import Derived.RegionTactic
import Derived.ChangeAlike
import Derived.Laws.EntriesVeiled
namespace Go.Proofs.Ytgapbaelifcifaa
open Go.RowKit

/-- What look returns, with its memory: the first rota and how far one comes. -/
def LookPost (p : How) (w : World) (e : Ending) (w' : World) : Prop :=
  ∃ (a : Option Addr) (cap : Nat) (R : List Nat) (rc : Nat), e = .returned (.tuple #[.slice a R.length cap, .int .i64 (rc : Int)]) ∧ Below w.heap.size w w' ∧ Ints w' a (R.map fun r : Nat => (r : Int)) ∧ rc ≤ p.tn ∧ (∃ rs, rs.length = rc ∧ p.path rs 0 [0, 0, 0, 0, 0]) ∧
    (p.best R 0 [0, 0, 0, 0, 0] ∧ rc = p.tn ∨ rc < p.tn ∧ p.dead rc 0 [0, 0, 0, 0, 0])

theorem seven (w : World) (o0 o1 o2 o3 o4 o5 o6 : Obj) (i : Nat) (o : Obj) (h : [o0, o1, o2, o3, o4, o5, o6][i]? = some o) :
    (((((((w.alloc o0).alloc o1).alloc o2).alloc o3).alloc o4).alloc o5).alloc o6).heap[w.heap.size + i]? = some o := by
  match i, h with
  | 0, h =>
    cases h
    change (((((((w.heap.push o0).push o1).push o2).push o3).push o4).push o5).push o6)[w.heap.size + 0]? = _
    simp only [Array.getElem?_push, Array.size_push]
    rw [if_neg (by omega)]
    rw [if_neg (by omega)]
    rw [if_neg (by omega)]
    rw [if_neg (by omega)]
    rw [if_neg (by omega)]
    rw [if_neg (by omega)]
    rw [if_pos (by omega)]
  | 1, h =>
    cases h
    change (((((((w.heap.push o0).push o1).push o2).push o3).push o4).push o5).push o6)[w.heap.size + 1]? = _
    simp only [Array.getElem?_push, Array.size_push]
    rw [if_neg (by omega)]
    rw [if_neg (by omega)]
    rw [if_neg (by omega)]
    rw [if_neg (by omega)]
    rw [if_neg (by omega)]
    rw [if_pos trivial]
  | 2, h =>
    cases h
    change (((((((w.heap.push o0).push o1).push o2).push o3).push o4).push o5).push o6)[w.heap.size + 2]? = _
    simp only [Array.getElem?_push, Array.size_push]
    rw [if_neg (by omega)]
    rw [if_neg (by omega)]
    rw [if_neg (by omega)]
    rw [if_neg (by omega)]
    rw [if_pos trivial]
  | 3, h =>
    cases h
    change (((((((w.heap.push o0).push o1).push o2).push o3).push o4).push o5).push o6)[w.heap.size + 3]? = _
    simp only [Array.getElem?_push, Array.size_push]
    rw [if_neg (by omega)]
    rw [if_neg (by omega)]
    rw [if_neg (by omega)]
    rw [if_pos trivial]
  | 4, h =>
    cases h
    change (((((((w.heap.push o0).push o1).push o2).push o3).push o4).push o5).push o6)[w.heap.size + 4]? = _
    simp only [Array.getElem?_push, Array.size_push]
    rw [if_neg (by omega)]
    rw [if_neg (by omega)]
    rw [if_pos trivial]
  | 5, h =>
    cases h
    change (((((((w.heap.push o0).push o1).push o2).push o3).push o4).push o5).push o6)[w.heap.size + 5]? = _
    simp only [Array.getElem?_push, Array.size_push]
    rw [if_neg (by omega)]
    rw [if_pos trivial]
  | 6, h =>
    cases h
    change (((((((w.heap.push o0).push o1).push o2).push o3).push o4).push o5).push o6)[w.heap.size + 6]? = _
    simp only [Array.getElem?_push, Array.size_push]
    rw [if_pos trivial]
  | i + 7, h => simp at h

theorem ints_of_owns {W : World} {base : Nat} {e : TypeId} {a : Option Addr} {cap : Nat} {R : List Nat} (h : W.ownsRow base e 1 (.slice a R.length cap) R.length (natVs R)) : Ints W a (R.map fun r : Nat => (r : Int)) := by
  intro i hi
  rw [List.length_map] at hi
  rcases h.2 with ⟨_, h0⟩ | ⟨g, cap', cur, hv, _, hg, _⟩
  · omega
  · simp only [Value.slice.injEq] at hv
    obtain ⟨rfl, -, -⟩ := hv
    have hc := h.cells (g := g) rfl
    have hadd : ∀ j, (⟨g, 0, none⟩ : Addr).add j = ⟨g, 0 + j, none⟩ := fun j => by unfold Addr.add; split <;> simp_all
    have c1 := hc i (.int .i64 (R[i] : Nat)) (by simp [natVs, List.getElem?_eq_getElem hi])
    rw [hadd] at c1
    exact ⟨g, 0, rfl, by simpa [List.getElem?_eq_getElem hi] using c1⟩


set_option maxRecDepth 100000 in
set_option maxHeartbeats 2000000 in
theorem lookM_any (s : Sv) (C : List (Int × Int × Int)) (T : List (Int × Int)) (p : How) (w : World) (hs : SvOk s C T w) (hcn : p.cn = s.cn) (htn : p.tn = s.tn)
    (hag : ∀ k r, k < p.tn → r < p.cn → p.ag k r = againM s C T k r ∧ againM s C T k r ≤ p.tn)
    (hmay : ∀ (W : World) (k r h0 h1 h2 h3 h4 : Nat), Below w.heap.size w W → k < p.tn → r < p.cn → Calls Try.prog 60 #[.agg #[.int .i64 s.len, .slice s.pa s.pn s.pc, .int .i64 s.long, .int .i64 s.short, .slice s.ca s.cn s.cc, .int .i64 s.due, .int .i64 s.delay, .slice s.ta s.tn s.tc], .agg #[.int .i64 (h0 : Int), .int .i64 (h1 : Int), .int .i64 (h2 : Int), .int .i64 (h3 : Int), .int .i64 (h4 : Int)], .int .i64 (k : Int), .int .i64 (r : Int)] W fun e w' => e = .returned (.bool (p.may k r (decide ([h0, h1, h2, h3, h4].getD r 0 ≤ k)))) ∧ Below W.heap.size W w') :
    Calls Try.prog 59 #[.agg #[.int .i64 s.len, .slice s.pa s.pn s.pc, .int .i64 s.long, .int .i64 s.short, .slice s.ca s.cn s.cc, .int .i64 s.due, .int .i64 s.delay, .slice s.ta s.tn s.tc], .func (.func 60) #[.agg #[.int .i64 s.len, .slice s.pa s.pn s.pc, .int .i64 s.long, .int .i64 s.short, .slice s.ca s.cn s.cc, .int .i64 s.due, .int .i64 s.delay, .slice s.ta s.tn s.tc]] #[]] w (LookPost p w) := by
  have HG := hid (giveM_any w.heap.size w s C T p rfl hs hcn htn hag hmay p.tn 0 0 0 0 0 0)
  have h40 : s.tn ≤ 40 := hs.t40
  clear hcn hag hmay
  have HTN := hid htn
  clear htn
  have hmm := @run_makeMap Try.prog
  obtain ⟨W0, hW0⟩ : ∃ W0, W0 = ((((((w.alloc (.cells #[.int .i64 s.len, .slice s.pa s.pn s.pc, .int .i64 s.long, .int .i64 s.short, .slice s.ca s.cn s.cc, .int .i64 s.due, .int .i64 s.delay, .slice s.ta s.tn s.tc] 106)).alloc (.cells #[.func (.func 60) #[.agg #[.int .i64 s.len, .slice s.pa s.pn s.pc, .int .i64 s.long, .int .i64 s.short, .slice s.ca s.cn s.cc, .int .i64 s.due, .int .i64 s.delay, .slice s.ta s.tn s.tc]] #[]] 117)).alloc (.cells #[.slice none 0 0] 53)).alloc (.cells #[.int .i64 0] 3)).alloc (.map #[] 0)).alloc (.cells #[.map (some (w.heap.size + 4))] 127)).alloc (.cells #[giveV w.heap.size] 128) := ⟨_, rfl⟩
  have hB0 : Below w.heap.size w W0 := by
    rw [hW0]
    exact (((((((Below.refl _ w).alloc (Nat.le_refl _) _).alloc (by simp) _).alloc (by simp; omega) _).alloc (by simp; omega) _).alloc (by simp; omega) _).alloc (by simp; omega) _).alloc (by simp; omega) _
  have gi : GI w.heap.size w s p (.func (.func 60) #[.agg #[.int .i64 s.len, .slice s.pa s.pn s.pc, .int .i64 s.long, .int .i64 s.short, .slice s.ca s.cn s.cc, .int .i64 s.due, .int .i64 s.delay, .slice s.ta s.tn s.tc]] #[]) W0 [] 0 := by
    have hz : W0.heap.size = w.heap.size + 7 := by rw [hW0]; simp
    have hh : ∀ i o, [Obj.cells #[.int .i64 s.len, .slice s.pa s.pn s.pc, .int .i64 s.long, .int .i64 s.short, .slice s.ca s.cn s.cc, .int .i64 s.due, .int .i64 s.delay, .slice s.ta s.tn s.tc] 106, .cells #[.func (.func 60) #[.agg #[.int .i64 s.len, .slice s.pa s.pn s.pc, .int .i64 s.long, .int .i64 s.short, .slice s.ca s.cn s.cc, .int .i64 s.due, .int .i64 s.delay, .slice s.ta s.tn s.tc]] #[]] 117, .cells #[.slice none 0 0] 53, .cells #[.int .i64 0] 3, .map #[] 0, .cells #[.map (some (w.heap.size + 4))] 127, .cells #[giveV w.heap.size] 128][i]? = some o → W0.heap[w.heap.size + i]? = some o := by
      intro i o h
      rw [hW0]
      exact seven w _ _ _ _ _ _ _ i o h
    exact { below := hB0, sz := by omega, v := hh 0 _ rfl, ma := hh 1 _ rfl, li := ⟨_, hh 2 _ rfl, World.ownsRow_nil _ _ _ _⟩, re := hh 3 _ rfl, tr := hh 5 _ rfl, tried := ⟨#[], 0, hh 4 _ rfl, fun e he => by simp at he⟩, gi := hh 6 _ rfl, rcle := Nat.zero_le _, wit := ⟨[], rfl, trivial⟩ }
  go_enter Try.func59, Try.ntmps59
  go_wp2_with fail
  unfold giveV at hW0
  have hcall := HG.out W0 [] 0 (by omega) (Nat.zero_le _) ⟨Nat.zero_le _, Nat.zero_le _, Nat.zero_le _, Nat.zero_le _, Nat.zero_le _⟩ rfl trivial rfl gi
  rw [show ((0 : Nat) : Int) = 0 from rfl] at hcall
  rw [hW0] at hcall
  refine hcall.mono ?_
  rw [← hW0]
  clear hW0
  rintro e w' ⟨b, R, rc, rfl, g, _, _, _, hres⟩
  have HRES := hid hres
  clear hres hcall hB0 gi hmm
  obtain ⟨lv, hl, hrow⟩ := g.li
  obtain ⟨va, vc, rfl⟩ := owns_shape hrow
  have l1 := hl.cell
  have l2 := hl.frozen
  have r1 := g.re.cell
  have r2 := g.re.frozen
  go_wp2
  go_region
  all_goals
    go_wp2
    have b2 := ((hl.set (.slice va R.length vc)).other (B' := w.heap.size + 3) (by omega) (.int .i64 (rc : Int)))
    have b3 := ((g.re.other (B' := w.heap.size + 2) (by omega) (.slice va R.length vc)).set (.int .i64 (rc : Int)))
    have c2 := b2.cell
    have c3 := b3.cell
    have hne : ∀ k, Value.ownBlock (.slice va R.length vc) = some k → w.heap.size + 7 ≤ k := fun k e => (hrow.lt k e).1
    have o1 := hrow.kept (grownBy_setCell' w' (w.heap.size + 2) (.slice va R.length vc)) (by
      cases e : Value.ownBlock (.slice va R.length vc) with
      | none => exact .inl rfl
      | some k => exact .inr (by have := hne k e; simp; omega))
    have o2 := o1.kept (grownBy_setCell' _ (w.heap.size + 3) (.int .i64 (rc : Int))) (by
      cases e : Value.ownBlock (.slice va R.length vc) with
      | none => exact .inl rfl
      | some k => exact .inr (by have := hne k e; simp; omega))
    have hbb := ((g.below.setCell (p := ⟨w.heap.size + 2, 0, none⟩) (by simp) (.slice va R.length vc)).setCell (p := ⟨w.heap.size + 3, 0, none⟩) (by simp) (.int .i64 (rc : Int))).drew
    refine bodyPost_ret (v := .tuple #[.slice va R.length vc, .int .i64 (rc : Int)]) (by simp [results, Try.f59, go_sem, c2, c3]) rfl ⟨va, vc, R, rc, rfl, hbb, ints_of_owns o2.drew, g.rcle, g.wit, ?_⟩
    have hres := HRES.out
    cases b with
    | true =>
      simp only [if_true] at hres
      obtain ⟨rs, hR, hb, hf⟩ := hres
      rw [List.nil_append] at hR
      subst hR
      exact .inl ⟨hb, by have := g.rcle; omega⟩
    | false =>
      simp only [Bool.false_eq_true, if_false] at hres
      obtain ⟨rs, hl, hp⟩ := g.wit
      have := (hres.2 rs hp).1
      exact .inr ⟨by omega, hres.2⟩

end Go.Proofs.Ytgapbaelifcifaa
