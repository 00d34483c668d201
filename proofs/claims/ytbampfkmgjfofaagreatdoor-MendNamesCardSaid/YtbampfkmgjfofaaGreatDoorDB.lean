/- Mend: the requests that are accepted, in the order of their places (slices.SortedFunc). -/
import Derived.Test.YtbampfkmgjfofaaGreatDoorDA
import Derived.Test.YtbampfkmgjfofaaGreatDoorCX
import Derived.Shelf.SlSortCmp.NoneTotal
namespace Go.Proofs.YtbampfkmgjfofaaGreatDoor
open Go.Sort
open Go.RowKit

/-- A request whose place is one of a report. -/
def AskFit (x : Ask) : Prop := 0 ≤ x.f ∧ x.f ≤ 1000 ∧ 0 ≤ x.c ∧ x.c ≤ 1000

abbrev AskB := { x : Ask // AskFit x }
instance : Inhabited AskB := ⟨⟨⟨0, 0, 0, 0, none, 0, 0, 0⟩, by unfold AskFit; simp⟩⟩

def encB (x : AskB) : List Value := askC x.val
def cmpB (x y : AskB) : Int := cmpS x.val y.val

theorem ltOf_cmpB (x y : AskB) : ltOf cmpB x y = decide (x.val.f < y.val.f ∨ x.val.f = y.val.f ∧ x.val.c < y.val.c) := ltOf_cmpS x.val y.val

theorem cmpB_swo : SWO (ltOf cmpB) where
  irrefl x := by rw [ltOf_cmpB]; simp
  trans x y z := by simp only [ltOf_cmpB, decide_eq_true_eq]; omega
  ntrans x y z := by simp only [ltOf_cmpB, decide_eq_false_iff_not]; omega

set_option maxHeartbeats 1000000 in
theorem byFrom_any (x y : Ask) (W : World) (hx : AskFit x) (hy : AskFit y) : Calls Tryz.prog 86 #[askV x, askV y] W fun e w' => e = .returned (.int .i64 (x.f - y.f)) ∧ ∃ q os', w' = Go.Sort.grow (W.drewN q) os' := by
  obtain ⟨h1, h2, -, -⟩ := hx
  obtain ⟨k1, k2, -, -⟩ := hy
  unfold askV
  go_enter Tryz.func86, Tryz.ntmps86
  go_wp2
  go_ret
  exact ⟨rfl, 0, _, by rw [Go.Sort.alloc_eq_grow, Go.Sort.alloc_eq_grow, Go.Sort.grow_grow]; rfl⟩

set_option maxHeartbeats 1000000 in
theorem byCut_any (x y : Ask) (W : World) (hx : AskFit x) (hy : AskFit y) : Calls Tryz.prog 87 #[askV x, askV y] W fun e w' => e = .returned (.int .i64 (x.c - y.c)) ∧ ∃ q os', w' = Go.Sort.grow (W.drewN q) os' := by
  obtain ⟨-, -, h1, h2⟩ := hx
  obtain ⟨-, -, k1, k2⟩ := hy
  unfold askV
  go_enter Tryz.func87, Tryz.ntmps87
  go_wp2
  go_ret
  exact ⟨rfl, 0, _, by rw [Go.Sort.alloc_eq_grow, Go.Sort.alloc_eq_grow, Go.Sort.grow_grow]; rfl⟩

theorem flatK_val (d : Array AskB) : flatK encB 6 d = flatK askC 6 (d.map (·.val)) := by
  apply Array.ext
  · simp
  · intro i h1 h2
    have h3 : i < d.size * 6 := by simpa using h1
    have e1 := get_flatK encB 6 d i h3
    have e2 := get_flatK askC 6 (d.map (·.val)) i (by simpa using h3)
    rw [getElem!_pos _ i h1] at e1
    rw [getElem!_pos _ i h2] at e2
    rw [e1, e2]
    have hd : i / 6 < d.size := by omega
    rw [getElem!_pos d _ hd, getElem!_pos (d.map (·.val)) _ (by simpa using hd), Array.getElem_map]
    rfl

theorem sortWorld_val (w : World) (blk m : Nat) (d : Array AskB) (os : Array Obj) : sortWorldK encB 6 w blk 0 m d os = sortWorldK askC 6 w blk 0 m (d.map (·.val)) os := by
  unfold sortWorldK putRowK
  rw [flatK_val]

theorem cmpLays_place {w : World} {blk cb db size : Nat} (h1 : cb ≠ blk) (h2 : db ≠ blk) (hb : w.cell? ⟨cb, 0, none⟩ = some (.slice (some ⟨db, 0, none⟩) 2 2)) (hd0 : w.cell? ⟨db, 0, none⟩ = some (.func (.func 86) #[] #[])) (hd1 : w.cell? ⟨db, 1, none⟩ = some (.func (.func 87) #[] #[])) :
    CmpLays Tryz.prog 125 #[.pointer (some ⟨cb, 0, none⟩)] encB 6 cmpB blk 0 size w := by
  intro m os dk _ x y
  have l1 := lt_of_cell hb
  have l2 := lt_of_cell hd0
  rw [sortWorld_val]
  exact rule_any _ _ x.val y.val (x.val.f - y.val.f) (x.val.c - y.val.c) cb db _
    ⟨86, rfl, enters_of Tryz.func86 (by kernel_rfl) rfl, fun W' => byFrom_any x.val y.val W' x.property y.property⟩ ⟨87, rfl, enters_of Tryz.func87 (by kernel_rfl) rfl, fun W' => byCut_any x.val y.val W' x.property y.property⟩
    ((sortWorldK_other h1 l1).trans hb) ((sortWorldK_other h2 l2).trans hd0) ((sortWorldK_other h2 l2).trans hd1)

/-- What SortedFunc makes of them. -/
def SortedPost (T : List Ask) (nv : Nat) (w : World) (e : Ending) (w' : World) : Prop :=
  ∃ ra rc Q, e = .returned (.slice ra nv rc) ∧ Q.Perm T ∧ Q.Pairwise (fun x y => ltOf cmpS y x = false) ∧ AsksAt w.heap.size w' ra Q ∧ Below w.heap.size w w'

/-- What SortFunc makes of a row of one's own. -/
theorem sortPlace_any (T : List Ask) (n g cap cb db base : Nat) (w : World) (hT : T.length = n) (hn : n ≤ 1000) (hfit : ∀ x ∈ T, AskFit x) (hown : w.ownsRow base 162 6 (.slice (some ⟨g, 0, none⟩) n cap) n (flatV askC T))
    (hcb : cb < base) (hdb : db < base) (hb : w.cell? ⟨cb, 0, none⟩ = some (.slice (some ⟨db, 0, none⟩) 2 2)) (hd0 : w.cell? ⟨db, 0, none⟩ = some (.func (.func 86) #[] #[])) (hd1 : w.cell? ⟨db, 1, none⟩ = some (.func (.func 87) #[] #[])) :
    Calls Tryz.prog 123 #[.slice (some ⟨g, 0, none⟩) n cap, .func (.func 125) #[] #[.pointer (some ⟨cb, 0, none⟩)]] w fun e w' => e = .returned (.tuple #[]) ∧
      ∃ Q, Q.Perm T ∧ Q.Pairwise (fun x y => ltOf cmpS y x = false) ∧ AsksAt base w' (some ⟨g, 0, none⟩) Q ∧ Below base w w' := by
  have hlt := hown.lt g rfl
  obtain ⟨d, hd⟩ : ∃ d : Array AskB, d.map (·.val) = T.toArray := ⟨(T.attach.map fun x => (⟨x.val, hfit x.val x.property⟩ : AskB)).toArray, by simp [List.map_map, Function.comp_def]⟩
  have hds : d.size = n := by
    have := congrArg Array.size hd
    simpa [hT] using this
  have hH : HoldsK encB 6 w g 0 d := by
    have h := holdsK_of_owns hown hT
    unfold HoldsK at h ⊢
    rw [flatK_val, hd]
    exact h
  have h := AnyQ.slices_SortFunc sortL 6 Tryz.isAgg162 Tryz.sizeOf162 encB (fun x => askC_length x.val) (fun x => askC_one x.val) cmpB cmpB_swo 125 #[.pointer (some ⟨cb, 0, none⟩)] g 0 cap d w
    (enters_of Tryz.func125 (by kernel_rfl) rfl) (cmpLays_place (by omega) (by omega) hb hd0 hd1) hH hlt.2 (by omega)
  change Calls Tryz.prog 123 _ _ _ at h
  rw [hds] at h
  refine h.mono ?_
  rintro e w' ⟨rfl, d', m, os, hp, hs, rfl⟩
  have hp2 : d'.toList.Perm d.toList := by
    have := hp.2.2
    have e1 : d.extract 0 n = d := by rw [← hds]; simp
    have e2 : d'.extract 0 n = d' := by rw [← hds, ← hp.1]; simp
    rwa [e1, e2] at this
  have hs' : d'.toList.Pairwise fun x y => ltOf cmpB y x = false := by
    have hsz : d'.size = n := by rw [hp.1]; exact hds
    rw [List.pairwise_iff_getElem]
    intro i j hi hj hij
    have hi' : i < d'.size := by simpa using hi
    have hj' : j < d'.size := by simpa using hj
    have := hs i j (Nat.zero_le _) hij (by omega)
    rw [getElem!_pos d' i hi', getElem!_pos d' j hj'] at this
    simpa using this
  have hT2 : d.toList.map (·.val) = T := by
    have := congrArg Array.toList hd
    simpa using this
  refine ⟨rfl, d'.toList.map (·.val), ?_, ?_, ?_, ?_⟩
  · rw [← hT2]; exact hp2.map _
  · rw [List.pairwise_map]; exact hs'
  · rw [sortWorld_val]
    have hH2 : HoldsK askC 6 (sortWorldK askC 6 w g 0 m (d'.map (·.val)) os) g 0 (d'.map (·.val)) := by
      have hH3 := holdsK_sortWorldK_c (enc := encB) (k := 6) (w := w) (blk := g) (off := 0) d d' m os hH hlt.2 hp.1
      rw [sortWorld_val] at hH3
      unfold HoldsK at hH3 ⊢
      rw [flatK_val] at hH3
      exact hH3
    have := asks_of_holdsK (base := base) hH2 hlt.1
    simpa using this
  · rw [sortWorld_val]
    exact sortWorldK_below (Below.refl _ _) hlt.1 hlt.2

set_option maxHeartbeats 1000000 in
theorem sortedFunc_any (T : List Ask) (bs nv cv cb db base : Nat) (av : Option Addr) (w : World) (hT : T.length = nv) (hnv : nv ≤ 1000) (hA : AsksAt base w av T) (e0 : w.cell? ⟨bs, 0, none⟩ = some (.slice av nv cv)) (hfit : ∀ x ∈ T, AskFit x)
    (hb : w.cell? ⟨cb, 0, none⟩ = some (.slice (some ⟨db, 0, none⟩) 2 2)) (hd0 : w.cell? ⟨db, 0, none⟩ = some (.func (.func 86) #[] #[])) (hd1 : w.cell? ⟨db, 1, none⟩ = some (.func (.func 87) #[] #[])) :
    Calls Tryz.prog 88 #[.func (.func 124) #[] #[.pointer (some ⟨bs, 0, none⟩)], .func (.func 125) #[] #[.pointer (some ⟨cb, 0, none⟩)]] w (SortedPost T nv w) := by
  have h := collect_any T bs nv cv base av w hT hnv hA e0
  have hcb := lt_of_cell hb
  have hdb := lt_of_cell hd0
  clear hA e0
  have HT := hid hT
  clear hT
  have HF := hid hfit
  clear hfit
  go_enter Tryz.func88, Tryz.ntmps88
  go_wp2_with fail
  refine h.mono ?_
  rintro e w1 ⟨ra, rc, rfl, hown, hb1⟩
  replace hb := cell_grown hb1 hb
  replace hd0 := cell_grown hb1 hd0
  replace hd1 := cell_grown hb1 hd1
  have HO := hid hown
  have HB := hid hb1
  clear h hown hb1
  by_cases h0 : nv = 0
  · have hQ : T = [] := List.eq_nil_of_length_eq_zero (by rw [HT.out]; exact h0)
    subst h0
    have hs : Calls Tryz.prog 123 #[.slice ra 0 rc, .func (.func 125) #[] #[.pointer (some ⟨cb, 0, none⟩)]] w1 fun e w' => e = .returned (.tuple #[]) ∧ w' = w1 := AnyF.slices_SortFunc_none sortL ra rc _ w1
    have HQ := hid hQ
    clear hQ
    go_wp2_with fail
    refine hs.mono ?_
    rintro e w2 ⟨rfl, rfl⟩
    go_wp2
    go_ret
    exact ⟨ra, rc, [], rfl, by rw [HQ.out], .nil, fun i hi => by simp at hi, HB.out⟩
  · obtain ⟨g, hg⟩ : ∃ g, ra = some ⟨g, 0, none⟩ := by
      rcases HO.out.2 with ⟨e, e2⟩ | ⟨g, cap, _, e, _⟩
      · simp only [Value.slice.injEq] at e
        exact absurd e.2.1 h0
      · simp only [Value.slice.injEq] at e
        exact ⟨g, e.1⟩
    subst hg
    have hs := sortPlace_any T nv g rc cb db w.heap.size w1 HT.out hnv HF.out HO.out hcb hdb hb hd0 hd1
    go_wp2_with fail
    refine hs.mono ?_
    rintro e w2 ⟨rfl, Q, hq1, hq2, hq3, hb2⟩
    have HQ := hid (And.intro hq1 (And.intro hq2 hq3))
    have HB2 := hid hb2
    clear hq1 hq2 hq3 hb2 hs
    go_wp2
    go_ret
    exact ⟨_, rc, Q, rfl, HQ.out.1, HQ.out.2.1, HQ.out.2.2, HB.out.trans HB2.out⟩

end Go.Proofs.YtbampfkmgjfofaaGreatDoor
