/- Mend: the accepted requests as the reference takes them: place by place, those that replace nothing first. Mend, the laws: Versions by the reference. -/
import Derived.Test.YtbampfkmgjfofaaGreatDoorDF
import Derived.Test.YtbampfkmgjfofaaGreatDoorCK
import Derived.Test.YtbampfkmgjfofaaGreatDoorCR
import Derived.Deep.RegionHeld3
import Derived.IntWalk
import Derived.Deep.CutRange
import Derived.Deep.CutBlock
import Derived.Test.YtbampfkmgjfofaaGreatDoorDE
namespace Go.Proofs.YtbampfkmgjfofaaGreatDoor
open Go.RowKit

/-! ## The requests as the reference takes them -/

/-- Those that are accepted, from a place on, that replace none (0), or some (1). -/
def pickR (L : List Req) (D : Nat → Int) (at_ cut : Nat) (i : Nat) : Bool := decide (D i = 0) && (decide ((L.getD i default).f = at_) && decide (min (L.getD i default).c 1 = cut))

def enumR (L : List Req) (D : Nat → Int) (at_ cut k : Nat) : List Nat := (List.range k).filter (pickR L D at_ cut)

/-- All of the first places. -/
def enumA (L : List Req) (D : Nat → Int) (rn : Nat) (at_ : Nat) : List Nat := (List.range at_).flatMap fun a => enumR L D a 0 rn ++ enumR L D a 1 rn

/-- As far as the loops are. -/
def enumU (L : List Req) (D : Nat → Int) (rn at_ cut k : Nat) : List Nat := enumA L D rn at_ ++ (if cut = 0 then enumR L D at_ 0 k else enumR L D at_ 0 rn ++ enumR L D at_ 1 k)

theorem enumR_next (L : List Req) (D : Nat → Int) (at_ cut k : Nat) : enumR L D at_ cut (k + 1) = if pickR L D at_ cut k then enumR L D at_ cut k ++ [k] else enumR L D at_ cut k := by
  unfold enumR
  rw [List.range_succ, List.filter_append]
  split
  · rename_i h
    rw [List.filter_cons_of_pos h, List.filter_nil]
  · rename_i h
    rw [List.filter_cons_of_neg h, List.filter_nil, List.append_nil]

theorem enumU_next {L : List Req} {D : Nat → Int} {rn at_ cut k : Nat} (hc : cut < 2) : enumU L D rn at_ cut (k + 1) = if pickR L D at_ cut k then enumU L D rn at_ cut k ++ [k] else enumU L D rn at_ cut k := by
  unfold enumU
  rcases (by omega : cut = 0 ∨ cut = 1) with rfl | rfl
  · simp only [if_true]
    rw [enumR_next]
    split <;> simp
  · have h1 : ((1 : Nat) = 0) = False := by simp
    simp only [h1, if_false]
    rw [enumR_next]
    split <;> simp

theorem enumU_cut {L : List Req} {D : Nat → Int} {rn at_ : Nat} : enumU L D rn at_ 1 0 = enumU L D rn at_ 0 rn := by
  unfold enumU
  simp [enumR]

theorem enumU_at {L : List Req} {D : Nat → Int} {rn at_ : Nat} : enumU L D rn (at_ + 1) 0 0 = enumU L D rn at_ 1 rn := by
  unfold enumU enumA
  rw [List.range_succ, List.flatMap_append]
  simp [enumR]

theorem enumU_zero {L : List Req} {D : Nat → Int} {rn : Nat} : enumU L D rn 0 0 0 = [] := by
  unfold enumU enumA
  simp [enumR]

theorem enumU_full {L : List Req} {D : Nat → Int} {rn n : Nat} : enumU L D rn n 0 0 = enumA L D rn n := by
  unfold enumU
  simp [enumR]

theorem mem_enumA {L : List Req} {D : Nat → Int} {rn n i : Nat} : i ∈ enumA L D rn n ↔ i < rn ∧ D i = 0 ∧ ∃ a, a < n ∧ (L.getD i default).f = (a : Nat) ∧ (min (L.getD i default).c 1 = 0 ∨ min (L.getD i default).c 1 = 1) := by
  unfold enumA enumR pickR
  simp only [List.mem_flatMap, List.mem_range, List.mem_append, List.mem_filter, Bool.and_eq_true, decide_eq_true_eq]
  constructor
  · rintro ⟨a, ha, ⟨h1, h2, h3, h4⟩ | ⟨h1, h2, h3, h4⟩⟩
    · exact ⟨h1, h2, a, ha, h3, .inl (by simpa using h4)⟩
    · exact ⟨h1, h2, a, ha, h3, .inr (by simpa using h4)⟩
  · rintro ⟨h1, h2, a, ha, h3, h4 | h4⟩
    · exact ⟨a, ha, .inl ⟨h1, h2, h3, by simpa using h4⟩⟩
    · exact ⟨a, ha, .inr ⟨h1, h2, h3, by simpa using h4⟩⟩

/-- The keys in the reference's order. -/
def keyI (L : List Req) (i : Nat) : Int × Int × Nat := key3 (askI L i)

theorem enumR_sorted {L : List Req} {D : Nat → Int} {a cut k : Nat} (hc : cut < 2) (hap : ∀ i j, D i = 0 → D j = 0 → i ≠ j → i < k → j < k → meetA (askI L i) (askI L j) = false) :
    ((enumR L D a cut k).map (keyI L)).Pairwise lt3 := by
  rw [List.pairwise_map]
  have hr : (enumR L D a cut k).Pairwise (· < ·) := List.Pairwise.filter _ List.pairwise_lt_range
  refine hr.imp_of_mem ?_
  intro i j hi hj hlt
  unfold enumR pickR at hi hj
  simp only [List.mem_filter, List.mem_range, Bool.and_eq_true, decide_eq_true_eq] at hi hj
  have h := hap i j hi.2.1 hj.2.1 (by omega) hi.1 hj.1
  unfold meetA askI at h
  simp only [Bool.or_eq_false_iff, Bool.and_eq_false_iff, decide_eq_false_iff_not] at h
  omega

theorem enumA_sorted {L : List Req} {D : Nat → Int} {rn : Nat} (hap : ∀ i j, D i = 0 → D j = 0 → i ≠ j → i < rn → j < rn → meetA (askI L i) (askI L j) = false) :
    ∀ n, ((enumA L D rn n).map (keyI L)).Pairwise lt3
  | 0 => by simp [enumA]
  | n + 1 => by
    have e : enumA L D rn (n + 1) = enumA L D rn n ++ (enumR L D n 0 rn ++ enumR L D n 1 rn) := by
      unfold enumA
      rw [List.range_succ, List.flatMap_append]
      simp
    rw [e, List.map_append, List.pairwise_append]
    refine ⟨enumA_sorted hap n, ?_, ?_⟩
    · rw [List.map_append, List.pairwise_append]
      refine ⟨enumR_sorted (by decide) hap, enumR_sorted (by decide) hap, ?_⟩
      intro x hx y hy
      obtain ⟨i, hi, rfl⟩ := List.mem_map.1 hx
      obtain ⟨j, hj, rfl⟩ := List.mem_map.1 hy
      unfold enumR pickR at hi hj
      simp only [List.mem_filter, List.mem_range, Bool.and_eq_true, decide_eq_true_eq] at hi hj
      unfold lt3 keyI key3 askI
      simp only
      omega
    · intro x hx y hy
      obtain ⟨i, hi, rfl⟩ := List.mem_map.1 hx
      obtain ⟨j, hj, rfl⟩ := List.mem_map.1 hy
      obtain ⟨-, -, a, ha, hf, -⟩ := mem_enumA.1 hi
      have hj2 : (L.getD j default).f = (n : Nat) := by
        rcases List.mem_append.1 hj with hj | hj
        all_goals
          unfold enumR pickR at hj
          simp only [List.mem_filter, List.mem_range, Bool.and_eq_true, decide_eq_true_eq] at hj
          exact hj.2.2.1
      unfold lt3 keyI key3 askI
      simp only
      omega

theorem pair_of {α : Type} {r : α → α → Prop} (hs : ∀ x y, r x y → r y x) : ∀ {l : List α}, l.Pairwise r → ∀ {x y : α}, x ∈ l → y ∈ l → x ≠ y → r x y
  | [], _, _, _, hx, _, _ => by cases hx
  | z :: l, h, x, y, hx, hy, hne => by
    rw [List.pairwise_cons] at h
    rcases List.mem_cons.1 hx with hxz | hx
    · rcases List.mem_cons.1 hy with hyz | hy
      · exact absurd (hxz.trans hyz.symm) hne
      · rw [hxz]; exact h.1 y hy
    · rcases List.mem_cons.1 hy with hyz | hy
      · rw [hyz]; exact hs _ _ (h.1 x hx)
      · exact pair_of hs h.2 hx hy hne


theorem keyI_of {l : Lex} {S : List (Int × Int × Int)} {R : List (Tx × Int)} {out win : Int} {L : List Req} {Q : List Ask} (h : PlaceOk l S R out win L Q) : Q.map key3 = (Q.map (·.i)).map (keyI L) := by
  rw [List.map_map]
  refine List.map_congr_left fun x hx => ?_
  obtain ⟨-, h2, h3, -⟩ := h.mem x hx
  unfold keyI key3 askI
  simp only [Function.comp]
  rw [h2, h3]

theorem place_apart {l : Lex} {S : List (Int × Int × Int)} {R : List (Tx × Int)} {out win : Int} {L : List Req} {Q : List Ask} (h : PlaceOk l S R out win L Q) (i j : Nat)
    (hi : decideM l S R out win L i = 0) (hj : decideM l S R out win L j = 0) (hne : i ≠ j) (li : i < L.length) (lj : j < L.length) : meetA (askI L i) (askI L j) = false := by
  obtain ⟨x, hx, rfl⟩ := List.mem_map.1 ((h.idx i).2 ⟨li, hi⟩)
  obtain ⟨y, hy, rfl⟩ := List.mem_map.1 ((h.idx j).2 ⟨lj, hj⟩)
  have hxy : x ≠ y := fun e => hne (by rw [e])
  have hm := pair_of (fun x y (h : meetA x y = false) => by rw [meetA_comm]; exact h) h.apart hx hy hxy
  obtain ⟨-, f1, c1, -⟩ := h.mem x hx
  obtain ⟨-, f2, c2, -⟩ := h.mem y hy
  unfold meetA askI
  unfold meetA at hm
  simp only [← f1, ← c1, ← f2, ← c2]
  exact hm

theorem enumA_nodup {L : List Req} {D : Nat → Int} {rn n : Nat} (hs : ((enumA L D rn n).map (keyI L)).Pairwise lt3) : (enumA L D rn n).Nodup := by
  rw [List.pairwise_map] at hs
  refine hs.imp ?_
  intro a b h e
  subst e
  unfold lt3 at h
  omega

/-- The segments are made of the places in order. -/
theorem place_enum {l : Lex} {S : List (Int × Int × Int)} {R : List (Tx × Int)} {out win : Int} {L : List Req} {Q : List Ask} (h : PlaceOk l S R out win L Q) :
    Q.map key3 = (enumA L (decideM l S R out win L) L.length (R.length + 1)).map (keyI L) := by
  have hsort := enumA_sorted (L := L) (D := decideM l S R out win L) (rn := L.length) (fun i j hi hj hne li lj => place_apart h i j hi hj hne li lj) (R.length + 1)
  have hp : (Q.map (·.i)).Perm (enumA L (decideM l S R out win L) L.length (R.length + 1)) := (List.perm_ext_iff_of_nodup h.nodup (enumA_nodup hsort)).2 fun i => by
    rw [h.idx, mem_enumA]
    constructor
    · rintro ⟨h1, h2⟩
      obtain ⟨x, hx, rfl⟩ := List.mem_map.1 ((h.idx i).2 ⟨h1, h2⟩)
      obtain ⟨-, f1, c1, ha⟩ := h.mem x hx
      obtain ⟨k1, k2, k3, -⟩ := alone_fit ha
      refine ⟨h1, h2, x.f.toNat, by omega, by rw [← f1]; omega, ?_⟩
      rw [← c1]
      omega
    · rintro ⟨h1, h2, -⟩
      exact ⟨h1, h2⟩
  refine order3_one ?_ (keys_sorted h.sorted h.apart) hsort
  rw [keyI_of h]
  exact hp.map _

theorem place_segs {l : Lex} {S : List (Int × Int × Int)} {R : List (Tx × Int)} {out win : Int} {L : List Req} {Q : List Ask} {P : Nat → List Tx} (h : PlaceOk l S R out win L Q) :
    segM R P Q = segM R P ((enumA L (decideM l S R out win L) L.length (R.length + 1)).map (askI L)) := by
  refine segM_key ?_
  rw [place_enum h, List.map_map]
  rfl

end Go.Proofs.YtbampfkmgjfofaaGreatDoor

namespace Go.Proofs.YtbampfkmgjfofaaGreatDoor
open Go.RowKit

theorem Tryz.info85s : (Tryz.prog.info? 85).map (fun i => (i.zero, i.size, i.bytes)) = some (some (.agg #[.slice none 0 0, .slice none 0 0, .int .i64 0]), 3, 56) := by kernel_rfl

/-- Segments in cells: each text that is not empty lies in another block than the list's own. -/
def SegsIn (W : World) (v : Value) (xs : List Value) (L : List Seg) : Prop :=
  xs.length = L.length * 3 ∧ ∀ i, i < L.length → ∃ ai ci bi di, xs[i * 3]? = some (.slice ai (L.getD i default).1.length ci) ∧ xs[i * 3 + 1]? = some (.slice bi (L.getD i default).2.1.length di) ∧ xs[i * 3 + 2]? = some (.int .i64 (L.getD i default).2.2) ∧
    Strs W ai (L.getD i default).1 ∧ Strs W bi (L.getD i default).2.1 ∧ (∀ bb o m, ai = some ⟨bb, o, m⟩ → 0 < (L.getD i default).1.length → v.ownBlock ≠ some bb) ∧ (∀ bb o m, bi = some ⟨bb, o, m⟩ → 0 < (L.getD i default).2.1.length → v.ownBlock ≠ some bb)

theorem SegsIn.moved {W W' : World} {v v' : Value} {xs : List Value} {L : List Seg} (h : SegsIn W v xs L)
    (hk : ∀ bb, bb < W.heap.size → v.ownBlock ≠ some bb → W'.heap[bb]? = W.heap[bb]? ∧ v'.ownBlock ≠ some bb) : SegsIn W' v' xs L := by
  refine ⟨h.1, fun i hi => ?_⟩
  obtain ⟨ai, ci, bi, di, k0, k1, k2, h1, h2, h3, h4⟩ := h.2 i hi
  refine ⟨ai, ci, bi, di, k0, k1, k2, fun j hj => ?_, fun j hj => ?_, fun bb o m e hl => ?_, fun bb o m e hl => ?_⟩
  · obtain ⟨b, off, ha, hc⟩ := h1 j hj
    exact ⟨b, off, ha, (World.cell?_of_block (w := W) (hk b (lt_of_cell hc) (h3 b off none ha (by omega))).1).trans hc⟩
  · obtain ⟨b, off, ha, hc⟩ := h2 j hj
    exact ⟨b, off, ha, (World.cell?_of_block (w := W) (hk b (lt_of_cell hc) (h4 b off none ha (by omega))).1).trans hc⟩
  · obtain ⟨b, off, ha, hc⟩ := h1 0 hl
    have e2 := e
    rw [ha] at e2
    cases e2
    exact (hk bb (lt_of_cell hc) (h3 bb _ _ e hl)).2
  · obtain ⟨b, off, ha, hc⟩ := h2 0 hl
    have e2 := e
    rw [ha] at e2
    cases e2
    exact (hk bb (lt_of_cell hc) (h4 bb _ _ e hl)).2

theorem SegsIn.snoc {W : World} {v : Value} {xs : List Value} {L : List Seg} (h : SegsIn W v xs L) {s : Seg} {ai bi : Option Addr} {n m ci di : Nat} (hn : s.1.length = n) (hm : s.2.1.length = m) (hA : Strs W ai s.1) (hB : Strs W bi s.2.1)
    (ha : ∀ bb o m, ai = some ⟨bb, o, m⟩ → 0 < s.1.length → v.ownBlock ≠ some bb) (hb : ∀ bb o m, bi = some ⟨bb, o, m⟩ → 0 < s.2.1.length → v.ownBlock ≠ some bb) :
    SegsIn W v (xs ++ [.slice ai n ci, .slice bi m di, .int .i64 s.2.2]) (L ++ [s]) := by
  subst hn
  subst hm
  have hl := h.1
  refine ⟨by rw [List.length_append, List.length_append, hl, Nat.add_mul]; rfl, fun i hi => ?_⟩
  rw [List.length_append, List.length_singleton] at hi
  by_cases e : i < L.length
  · obtain ⟨aj, cj, bj, dj, k0, k1, k2, h1, h2, h3, h4⟩ := h.2 i e
    have hg : (L ++ [s]).getD i default = L.getD i default := by simp [List.getD_eq_getElem?_getD, List.getElem?_append_left e]
    rw [hg]
    refine ⟨aj, cj, bj, dj, ?_, ?_, ?_, h1, h2, h3, h4⟩
    all_goals rw [List.getElem?_append_left (by rw [hl]; omega)]; assumption
  · have e' : i = L.length := by omega
    subst e'
    have hg : (L ++ [s]).getD L.length default = s := by simp [List.getD_eq_getElem?_getD]
    rw [hg]
    refine ⟨ai, ci, bi, di, ?_, ?_, ?_, hA, hB, ha, hb⟩
    all_goals rw [List.getElem?_append_right (by rw [hl]; omega), hl]; simp

theorem segs_of_in {W : World} {base n cap : Nat} {a : Option Addr} {xs : List Value} {L : List Seg} (h : SegsIn W (.slice a n cap) xs L) (hown : W.ownsRow base 85 3 (.slice a n cap) n xs) (hL : L.length = n) : SegsAt W a L := by
  intro i hi
  obtain ⟨ai, ci, bi, di, k0, k1, k2, h1, h2, -, -⟩ := h.2 i hi
  obtain ⟨b, -, ha, hc⟩ := owns_cells hown (by omega)
  exact ⟨b, 0, ai, ci, bi, di, ha, by rw [Nat.zero_add]; exact hc _ _ k0, by rw [Nat.zero_add]; exact hc _ _ k1, by rw [Nat.zero_add]; exact hc _ _ k2, h1, h2⟩

/-- A list of segments of one's own. -/
def SegL (W : World) (base : Nat) (v : Value) (L : List Seg) : Prop := ∃ xs, W.ownsRow base 85 3 v L.length xs ∧ SegsIn W v xs L

theorem SegL.nil (W : World) (base : Nat) : SegL W base (.slice none 0 0) [] := ⟨[], World.ownsRow_nil _ _ _ _, rfl, fun i hi => by cases hi⟩

theorem SegL.grown {W W' : World} {base : Nat} {v : Value} {L : List Seg} (h : SegL W base v L) (hb : Below W.heap.size W W') : SegL W' base v L := by
  obtain ⟨xs, ho, hs⟩ := h
  exact ⟨xs, owns_below hb ho, hs.moved fun bb h2 h3 => ⟨hb.block bb h2, h3⟩⟩

theorem SegL.step {W w5 : World} {base : Nat} {v : Value} {L : List Seg} {xs : List Value} {s : Seg} {ai bi : Option Addr} {n m ci di g n1 cp : Nat} {o : Obj}
    (hs : SegsIn W v xs L) (hn : s.1.length = n) (hm : s.2.1.length = m) (hA : Strs W ai s.1) (hB : Strs W bi s.2.1)
    (ha : ∀ bb o m, ai = some ⟨bb, o, m⟩ → 0 < s.1.length → v.ownBlock ≠ some bb) (hb : ∀ bb o m, bi = some ⟨bb, o, m⟩ → 0 < s.2.1.length → v.ownBlock ≠ some bb)
    (hn1 : (L ++ [s]).length = n1) (hown : w5.ownsRow base 85 3 (.slice (some ⟨g, 0, none⟩) n1 cp) n1 (xs ++ [.slice ai n ci, .slice bi m di, .int .i64 s.2.2])) (hgrow : (W.alloc o).grownBy w5 v.ownBlock)
    (hat : v.ownBlock = some g ∨ g = W.heap.size + 1) : SegL w5 base (.slice (some ⟨g, 0, none⟩) n1 cp) (L ++ [s]) := by
  refine ⟨_, by rw [hn1]; exact hown, ?_⟩
  refine (hs.snoc hn hm hA hB ha hb).moved fun bb h2 h3 => ⟨?_, fun h4 => ?_⟩
  · rw [hgrow.block bb (by rw [World.size_alloc]; omega) (fun e => h3 e.symm), Below.heap_alloc _ _ _ h2]
  · have h5 : g = bb := by simpa [Value.ownBlock] using h4
    rcases hat with h6 | h6
    · exact h3 (by rw [← h5]; exact h6)
    · omega

def OldsNew (R : List (Tx × Int)) (l k : Nat) (w : World) (e : Ending) (w' : World) : Prop := ∃ ra rc, e = .returned (.slice ra k rc) ∧ Strs w' ra (textsM R l k) ∧ Fresh w.heap.size w' ra ∧ Below w.heap.size w w'

set_option maxRecDepth 100000 in
set_option maxHeartbeats 2000000 in
theorem olds_new (R : List (Tx × Int)) (out win : Int) (n cap : Nat) (a : Option Addr) (l k : Nat) (w : World) (hR : R.length = n) (hn : n ≤ 1000) (hS : Nums w a R) (hlk : l + k ≤ n) :
    Calls Tryz.prog 47 #[.agg #[.slice a n cap, .int .i64 out, .int .i64 win], .int .i64 (l : Int), .int .i64 ((l : Int) + k)] w (OldsNew R l k w) := by
  have HR := hid hR
  clear hR
  obtain ⟨i0, hi, hz0, hz1, hz2⟩ := info_parts Tryz.info9
  obtain ⟨W0, hW0⟩ : ∃ W, W = w.alloc (.cells #[.slice a n cap, .int .i64 out, .int .i64 win] 56) := ⟨_, rfl⟩
  have hB0 : Below w.heap.size w W0 := by rw [hW0]; exact below_alloc w _
  have r0 : W0.cell? ⟨w.heap.size, 0, none⟩ = some (.slice a n cap) := by rw [hW0]; simp [go_sem]
  have hS0 := hS.grown hB0
  have z0 : W0.heap.size = w.heap.size + 1 := by rw [hW0]; simp
  clear hS
  have hl1 : (l : Int) + k ≤ 1000 := by omega
  go_enter Tryz.func47, Tryz.ntmps47
  go_wp2_with fail
  rw [← hW0]
  clear hW0
  go_loopw [7, 8] (fun v i wr => ∃ j : Nat, j ≤ k ∧ i = .int .i64 ((l + j : Nat) : Int) ∧ wr.ownsRow W0.heap.size 9 1 v j (flatV strC (textsM R l j)) ∧ Below W0.heap.size W0 wr) (fun _ i _ => l + k - (intOf i).toNat)
  case atStart => exact ⟨0, Nat.zero_le _, rfl, World.ownsRow_nil _ _ _ _, Below.refl _ _⟩
  case round =>
    obtain ⟨j, hj, rfl, hown, hB⟩ := hrel
    have hz := hB.size
    by_cases hlt : j < k
    · have hlt' : ((l + j : Nat) : Int) < (l : Int) + k := by omega
      have hlt2 : ((l + j : Nat) : Int) < (n : Int) := by omega
      obtain ⟨b, off, rfl, e0, e1⟩ := (hS0.grown hB) (l + j) (by rw [HR.out]; omega)
      have hts := textsM_snoc (R := R) (l := l) (j := j) (by rw [HR.out]; omega)
      generalize R.getD (l + j) (.empty, 0) = x at e0 e1 hts
      obtain ⟨x1, x2⟩ := x
      have HTS := hid hts
      simp only at e0 e1
      clear hts hlt
      have gb := lt_of_cell e0
      have s0 := cell_grown hB r0
      have sl := lt_of_cell s0
      have hj1 : ((l + j : Nat) : Int) ≤ 1000 := by omega
      generalize hp : l + j = p at e0 e1 hlt' hlt2 hj1
      have HP := hid hp
      clear hp
      go_wp2_with (at_builtin; refine wpList_append_own _ rfl _ _ 24 rfl W0.heap.size 9 i0 (.string .empty) 1 16 Tryz.underlying24 hi hz0 hz1 hz2 rfl (by decide) _ _ _ rfl (hown.alloc _) ⟨wr.heap.size, 0, none⟩ 1 1 [.string x1] rfl rfl (cells_new wr #[.string x1] 9) (fun x hx => by simp at hx; subst hx; rfl) (by unfold maxLen; omega) (by omega) (by simp; omega) ?_; intro v' w5 hown' hgrow5 hnil5; have hb5 := below_of_grown hB hown hgrow5 hz; clear hgrow5 hnil5)
      go_roundw
      case rel => exact ⟨j + 1, by have := HP.out; omega, by rw [show l + (j + 1) = p + 1 by have := HP.out; omega]; go_num, by rw [HTS.out, flatV_snoc]; exact hown', hb5⟩
      case measure => have := HP.out; simp [intOf]; omega
    · have hjk : j = k := by omega
      subst hjk
      obtain ⟨ra, rc, rfl⟩ := owns_shape hown
      have HFS := hid (fresh_of_owns hown)
      have HO := hid (strs_of_ownsN hown (textsM_length HR.out hlk))
      have hlt' : ¬ ((l + j : Nat) : Int) < (l : Int) + j := by omega
      clear hown hlt
      go_wp2
      go_ret
      exact ⟨ra, rc, rfl, HO.out, fun b o x e => ⟨by have := (HFS.out b o x e).1; omega, (HFS.out b o x e).2⟩, below_then hB0 hB⟩


theorem enumR_pre {L : List Req} {D : Nat → Int} {n c k rn : Nat} (hk : k ≤ rn) : ∃ B, enumR L D n c rn = enumR L D n c k ++ B := by
  obtain ⟨m, rfl⟩ := Nat.exists_eq_add_of_le hk
  unfold enumR
  rw [List.range_add, List.filter_append]
  exact ⟨_, rfl⟩

theorem enumA_pre {L : List Req} {D : Nat → Int} {n m rn : Nat} (hk : n ≤ m) : ∃ B, enumA L D rn m = enumA L D rn n ++ B := by
  obtain ⟨j, rfl⟩ := Nat.exists_eq_add_of_le hk
  unfold enumA
  rw [List.range_add, List.flatMap_append]
  exact ⟨_, rfl⟩

theorem enumA_next {L : List Req} {D : Nat → Int} {n rn : Nat} : enumA L D rn (n + 1) = enumA L D rn n ++ (enumR L D n 0 rn ++ enumR L D n 1 rn) := by
  unfold enumA
  rw [List.range_succ, List.flatMap_append]
  simp

theorem enumU_pre {L : List Req} {D : Nat → Int} {n wn c k rn : Nat} (hn : n ≤ wn) (hc : c < 2) (hk : k ≤ rn) : ∃ B, enumA L D rn (wn + 1) = enumU L D rn n c k ++ B := by
  obtain ⟨B1, h1⟩ := enumA_pre (L := L) (D := D) (rn := rn) (n := n + 1) (m := wn + 1) (by omega)
  rw [h1, enumA_next]
  rcases (by omega : c = 0 ∨ c = 1) with rfl | rfl
  · obtain ⟨B0, h0⟩ := enumR_pre (L := L) (D := D) (n := n) (c := 0) hk
    refine ⟨B0 ++ (enumR L D n 1 rn ++ B1), ?_⟩
    have e : enumU L D rn n 0 k = enumA L D rn n ++ enumR L D n 0 k := by unfold enumU; simp
    rw [e, h0]
    simp
  · obtain ⟨B0, h0⟩ := enumR_pre (L := L) (D := D) (n := n) (c := 1) hk
    refine ⟨B0 ++ B1, ?_⟩
    have e : enumU L D rn n 1 k = enumA L D rn n ++ (enumR L D n 0 rn ++ enumR L D n 1 k) := by unfold enumU; simp
    rw [e, h0]
    simp

theorem flow_pre {n : Int} {R : List (Tx × Int)} {P : Nat → List Tx} : ∀ {A : List Ask} {s : List Seg × Nat} {B : List Ask}, Flow n s.2 (A ++ B) → Flow n (A.foldl (stepS R P) s).2 B
  | [], _, _, h => h
  | x :: r, s, B, h => by
    obtain ⟨h1, h2, h3⟩ := h
    rw [List.foldl_cons]
    refine flow_pre ?_
    have e : (((stepS R P s x).2 : Nat) : Int) = x.f + x.c := by
      unfold stepS
      simp only
      omega
    rw [e]
    exact h3

theorem olds_to (R : List (Tx × Int)) (out win : Int) (n cap : Nat) (a : Option Addr) (l h : Nat) (w : World) (hR : R.length = n) (hn : n ≤ 1000) (hS : Nums w a R) (h1 : l ≤ h) (h2 : h ≤ n) :
    Calls Tryz.prog 47 #[.agg #[.slice a n cap, .int .i64 out, .int .i64 win], .int .i64 (l : Int), .int .i64 (h : Int)] w (OldsNew R l (h - l) w) := by
  have e : (h : Int) = (l : Int) + ((h - l : Nat) : Int) := by omega
  rw [e]
  exact olds_new R out win n cap a l (h - l) w hR hn hS (by omega)

/-- The run so far, as the reference goes. -/
def runE (R : List (Tx × Int)) (L : List Req) (E : List Nat) : List Seg × Nat := runS R (putM L) (E.map (askI L))

theorem runE_snoc {R : List (Tx × Int)} {L : List Req} {E : List Nat} {k : Nat} : runE R L (E ++ [k]) = stepS R (putM L) (runE R L E) (askI L k) := by
  unfold runE
  rw [List.map_append, List.map_cons, List.map_nil, runS_snoc]

theorem runE_fit {R : List (Tx × Int)} {L : List Req} {E B : List Nat} {k : Nat} {n : Int} (h : Flow n 0 ((E ++ [k] ++ B).map (askI L))) : ((runE R L E).2 : Int) ≤ (L.getD k default).f ∧ 0 ≤ (L.getD k default).c ∧ (L.getD k default).f + (L.getD k default).c ≤ n := by
  rw [List.append_assoc, List.map_append] at h
  have h2 := flow_pre (R := R) (P := putM L) (s := ([], 0)) h
  obtain ⟨g1, g2, g3⟩ := h2
  exact ⟨g1, g2, flow_le g3⟩

theorem runE_end {R : List (Tx × Int)} {L : List Req} {E B : List Nat} {n : Int} (h : Flow n 0 ((E ++ B).map (askI L))) : ((runE R L E).2 : Int) ≤ n := by
  rw [List.map_append] at h
  exact flow_le (flow_pre (R := R) (P := putM L) (s := ([], 0)) h)

theorem runE_length {R : List (Tx × Int)} {L : List Req} {E : List Nat} : (runE R L E).1.length ≤ 2 * E.length := by
  have h := runS_length (R := R) (P := putM L) (Q := E.map (askI L)) (s := ([], 0))
  rw [List.length_map] at h
  unfold runE runS
  simpa using h

theorem enumA_length {L : List Req} {D : Nat → Int} {rn : Nat} : ∀ n, (enumA L D rn n).length ≤ n * (2 * rn)
  | 0 => by simp [enumA]
  | n + 1 => by
    have h := enumA_length (L := L) (D := D) (rn := rn) n
    have h1 : ∀ c, (enumR L D n c rn).length ≤ rn := fun c => by
      unfold enumR
      exact Nat.le_trans (List.length_filter_le _ _) (by simp)
    have h2 := h1 0
    have h3 := h1 1
    rw [enumA_next, List.length_append, List.length_append, Nat.succ_mul]
    omega

/-- What the loops hold. -/
structure AtE (W0 : World) (R : List (Tx × Int)) (L : List Req) (E : List Nat) (v x : Value) (wr : World) : Prop where
  frm : x = .int .i64 ((runE R L E).2 : Nat)
  seg : SegL wr W0.heap.size v (runE R L E).1
  bel : Below W0.heap.size W0 wr

theorem AtE.grown {W0 : World} {R : List (Tx × Int)} {L : List Req} {E : List Nat} {v x : Value} {wr w' : World} (h : AtE W0 R L E v x wr) (hb : Below wr.heap.size wr w') : AtE W0 R L E v x w' :=
  ⟨h.frm, h.seg.grown hb, below_then h.bel hb⟩

/-- What holds when what nobody changed has been put ahead of a request. -/
structure MidAt (W0 : World) (kb : Nat) (t : Nat) (pq : Option Addr) (pn pcq : Nat) (qp : List Tx) (X : List Seg) (v : Value) (wx : World) : Prop where
  seg : SegL wx W0.heap.size v X
  bel : Below W0.heap.size W0 wx
  c3 : wx.cell? ⟨kb, 3, none⟩ = some (.int .i64 (t : Int))
  c4 : wx.cell? ⟨kb, 4, none⟩ = some (.slice pq pn pcq)
  kv : v.ownBlock ≠ some kb
  pv : ∀ bb o m, pq = some ⟨bb, o, m⟩ → 0 < qp.length → v.ownBlock ≠ some bb

def RefVersionsPost (X : List Seg) (w : World) (e : Ending) (w' : World) : Prop :=
  ∃ ra rc, e = .returned (.slice ra X.length rc) ∧ SegsAt w' ra X ∧ Below w.heap.size w w'

set_option maxRecDepth 100000 in
set_option maxHeartbeats 4000000 in
theorem refVersions_any (R : List (Tx × Int)) (out win : Int) (wa : Option Addr) (wn wk : Nat) (L : List Req) (ra : Option Addr) (rn rc : Nat) (ea : Option Addr) (ec : Nat) (D : Nat → Int) (w : World)
    (hR : R.length = wn) (hwn : wn ≤ 90) (hN : Nums w wa R) (hL : L.length = rn) (hrn : rn ≤ 100) (hQ : ReqsAt w ra L) (hE : IntsAt w ea rn D)
    (hfl : Flow wn 0 ((enumA L D rn (wn + 1)).map (askI L))) :
    Calls Tryz.prog 40 #[.agg #[.slice wa wn wk, .int .i64 out, .int .i64 win], .slice ra rn rc, .slice ea rn ec] w (RefVersionsPost (segM R (putM L) ((enumA L D rn (wn + 1)).map (askI L))) w) := by
  have HR := hid hR; have HL := hid hL; have HF := hid hfl
  clear hR hL hfl
  obtain ⟨W0, hW0⟩ : ∃ W, W = w.alloc (.cells #[.slice wa wn wk, .int .i64 out, .int .i64 win] 56) := ⟨_, rfl⟩
  have hB0 : Below w.heap.size w W0 := by rw [hW0]; exact below_alloc w _
  have y0 : W0.cell? ⟨w.heap.size, 0, none⟩ = some (.slice wa wn wk) := by rw [hW0]; simp [go_sem]
  have y1 : W0.cell? ⟨w.heap.size, 1, none⟩ = some (.int .i64 out) := by rw [hW0]; simp [go_sem]
  have y2 : W0.cell? ⟨w.heap.size, 2, none⟩ = some (.int .i64 win) := by rw [hW0]; simp [go_sem]
  replace hN := hN.grown hB0
  replace hQ := hQ.grown hB0
  replace hE := hE.grown hB0
  obtain ⟨i9, hi9, hz0, hz1, hz2⟩ := info_parts Tryz.info85s
  go_enter Tryz.func40, Tryz.ntmps40
  go_wp2_with fail
  rw [← hW0]
  clear hW0
  go_loopw [7, 8, 9] (fun v x i wr => ∃ n : Nat, n ≤ wn + 1 ∧ i = .int .i64 n ∧ Hid (AtE W0 R L (enumU L D rn n 0 0) v x wr)) (fun _ _ i _ => wn + 1 - (intOf i).toNat)
  case atStart => exact ⟨0, Nat.zero_le _, rfl, hid (by rw [enumU_zero]; exact ⟨rfl, SegL.nil _ _, Below.refl _ _⟩)⟩
  case round =>
    obtain ⟨n, hn, rfl, HA⟩ := hrel
    have hBr := HA.out.bel
    have hzr := hBr.size
    have r0 := cell_grown hBr y0
    have r1 := cell_grown hBr y1
    have r2 := cell_grown hBr y2
    have hfr := HA.out.frm
    by_cases hlt : n ≤ wn
    · have hlt' : (n : Int) ≤ (wn : Int) := by omega
      obtain ⟨Wr, hWr⟩ : ∃ W, W = wr := ⟨_, rfl⟩
      rw [← hWr] at HA hBr hzr r0 r1 r2 ⊢
      clear hWr hfr
      go_wp2_with fail
      go_loopw [7, 8, 10] (fun v x i wi => ∃ c : Nat, c ≤ 2 ∧ i = .int .i64 c ∧ Hid (AtE W0 R L (if c = 2 then enumU L D rn n 1 rn else enumU L D rn n c 0) v x wi)) (fun _ _ i _ => 2 - (intOf i).toNat)
      case atStart => exact ⟨0, by omega, rfl, hid HA.out⟩
      case round =>
        obtain ⟨c, hc, rfl, HC⟩ := hrel
        by_cases hcl : c < 2
        · have hcl' : (c : Int) < 2 := by omega
          rw [if_neg (by omega)] at HC
          obtain ⟨Wc, hWc⟩ : ∃ W, W = wr := ⟨_, rfl⟩
          rw [← hWc] at HC ⊢
          clear hWc
          go_wp2_with fail
          go_loopw [7, 8, 11] (fun a x i wi => ∃ (k : Nat) (v : Value), k ≤ rn ∧ i = .int .i64 k ∧ v = a ∧ Hid (AtE W0 R L (enumU L D rn n c k) v x wi)) (fun _ _ i _ => rn - (intOf i).toNat)
          case atStart => exact ⟨0, _, Nat.zero_le _, rfl, rfl, HC⟩
          case round =>
            obtain ⟨k, v, hk, rfl, rfl, HK⟩ := hrel
            by_cases hkl : k < rn
            · have hkl' : (k : Int) < (rn : Int) := by omega
              have hBk := HK.out.bel
              have hzk := hBk.size
              have hfrm := HK.out.frm
              subst hfrm
              obtain ⟨E, hEE⟩ : ∃ E, enumU L D rn n c k = E := ⟨_, rfl⟩
              rw [hEE] at HK ⊢
              have HEE := hid hEE
              clear hEE
              obtain ⟨fr, hfr⟩ : ∃ m, (runE R L E).2 = m := ⟨_, rfl⟩
              rw [hfr] at HK ⊢
              have HFR := hid hfr
              clear hfr
              obtain ⟨d, hd⟩ : ∃ d, D k = d := ⟨_, rfl⟩
              obtain ⟨eb, eo, hea, ed⟩ := hE k hkl
              rw [hd] at ed
              subst hea
              obtain ⟨b, off, pq, pcq, hra, e0, e1, e2, e3, e4, -, e6⟩ := hQ k (by rw [HL.out]; exact hkl)
              subst hra
              replace ed := cell_grown hBk ed
              replace e0 := cell_grown hBk e0
              replace e1 := cell_grown hBk e1
              replace e2 := cell_grown hBk e2
              replace e3 := cell_grown hBk e3
              replace e4 := cell_grown hBk e4
              obtain ⟨q, hq⟩ : ∃ q, L.getD k default = q := ⟨_, rfl⟩
              have hpk : pickR L D n c k = (decide (d = 0) && (decide (q.f = (n : Int)) && decide (min q.c 1 = (c : Int)))) := by unfold pickR; rw [hd, hq]
              rw [hq] at e0 e1 e2 e3 e4 e6
              have HQ := hid hq
              clear hq hd
              obtain ⟨qb, qm, qf, qc, qp⟩ := q
              obtain ⟨pn, hpn⟩ : ∃ n, qp.length = n := ⟨_, rfl⟩
              simp only at e0 e1 e2 e3 e4 e6 hpk
              rw [hpn] at e4
              have HPN := hid hpn
              clear hpn
              have gb := lt_of_cell e0
              have ge := lt_of_cell ed
              have s0 := cell_grown hBk y0
              have s1 := cell_grown hBk y1
              have s2 := cell_grown hBk y2
              have gs := lt_of_cell s0
              obtain ⟨mc, hmc⟩ : ∃ z, min qc 1 = z := ⟨_, rfl⟩
              rw [hmc] at hpk
              have nb : ¬ eb = wr.heap.size := by omega
              by_cases h1 : d = 0
              · subst h1
                by_cases h2 : qf = n
                · subst h2
                  by_cases h3 : mc = c
                  · subst h3
                    have hnx : enumU L D rn n c (k + 1) = E ++ [k] := by rw [enumU_next hcl, hpk, HEE.out]; simp
                    obtain ⟨B, hB⟩ := enumU_pre (L := L) (D := D) (wn := wn) hlt hcl (show k + 1 ≤ rn by omega)
                    rw [hnx] at hB
                    have hfit := runE_fit (R := R) (L := L) (E := E) (B := B) (k := k) (n := (wn : Int)) (by rw [← hB]; exact HF.out)
                    rw [HFR.out, HQ.out] at hfit
                    obtain ⟨f1, f2, f3⟩ := hfit
                    simp only at f1 f2 f3
                    obtain ⟨t, ht⟩ : ∃ t : Nat, qc = t := ⟨qc.toNat, by omega⟩
                    subst ht
                    have hst : runE R L (E ++ [k]) = ((runE R L E).1 ++ keepS R fr n ++ [(textsM R n t, qp, (k : Int))], n + t) := by
                      rw [runE_snoc]
                      unfold stepS segQ askI putM
                      simp only
                      rw [HQ.out, HFR.out]
                      simp only [Int.toNat_natCast]
                      rw [show ((n : Int) + (t : Int)).toNat = n + t by omega]
                    have hlen : (runE R L E).1.length ≤ 40000 := by
                      have h1 := enumA_length (L := L) (D := D) (rn := rn) (wn + 1)
                      rw [hB, List.length_append, List.length_append] at h1
                      have h2 := runE_length (R := R) (L := L) (E := E)
                      have h3 : (wn + 1) * (2 * rn) ≤ 91 * 200 := Nat.mul_le_mul (by omega) (by omega)
                      omega
                    obtain ⟨xs3, hown, hsok⟩ := HK.out.seg
                    obtain ⟨Lx3, hLx⟩ : ∃ X, (runE R L E).1 = X := ⟨_, rfl⟩
                    rw [hLx] at hown hsok hst hlen
                    obtain ⟨l3, hln⟩ : ∃ n, Lx3.length = n := ⟨_, rfl⟩
                    rw [hln] at hown hlen
                    obtain ⟨va3, vc3, rfl⟩ := owns_shape hown
                    have HNX := hid hnx
                    have HST := hid hst
                    have HL3 := hid hln
                    have hfn : fr ≤ n := by omega
                    have hnt : (n : Int) + (t : Int) ≤ 90 := by omega
                    have n0 : (0 : Int) ≤ (n : Int) := by omega
                    have t0 : (0 : Int) ≤ (t : Int) := by omega
                    obtain ⟨kb, hkb⟩ : ∃ z, wr.heap.size = z := ⟨_, rfl⟩
                    obtain ⟨W3, hW3⟩ : ∃ W, W = wr.alloc (.cells #[.int .i64 qb, .int .i64 qm, .int .i64 (n : Int), .int .i64 (t : Int), .slice pq pn pcq] 99) := ⟨_, rfl⟩
                    have hB2 : Below wr.heap.size wr W3 := by rw [hW3]; exact below_alloc wr _
                    have z2 : W3.heap.size = kb + 1 := by rw [hW3, ← hkb]; simp
                    have q3 : W3.cell? ⟨kb, 3, none⟩ = some (.int .i64 (t : Int)) := by rw [hW3, ← hkb]; simp [go_sem]
                    have q4 : W3.cell? ⟨kb, 4, none⟩ = some (.slice pq pn pcq) := by rw [hW3, ← hkb]; simp [go_sem]
                    have hkv3 : (Value.slice va3 l3 vc3).ownBlock ≠ some kb := fun h => by have := (hown.lt kb h).2; omega
                    have HO3 := hid (owns_below hB2 hown)
                    have HOK3 : Hid (SegsIn W3 (.slice va3 l3 vc3) xs3 Lx3) := hid (hsok.moved fun bb h2 h3 => ⟨hB2.block bb h2, h3⟩)
                    have hB03 := below_then hBk hB2
                    have hkb3 : kb < W3.heap.size := by omega
                    have hpv3 : ∀ bb o m, pq = some ⟨bb, o, m⟩ → 0 < qp.length → (Value.slice va3 l3 vc3).ownBlock ≠ some bb := fun bb o m e hl h => by
                      obtain ⟨b', o', e', hc⟩ := e6 0 hl
                      rw [e] at e'
                      cases e'
                      have := (hown.lt bb h).1
                      have := lt_of_cell hc
                      omega
                    have r0 := cell_grown hB2 s0
                    have r1 := cell_grown hB2 s1
                    have r2 := cell_grown hB2 s2
                    have HKB := hid hkb
                    clear hnx hB hst hown hsok HK hpk hLx hln hkb
                    go_upto_if 54 with fail
                    rw [← hW3]
                    try rw [HKB.out]
                    clear hW3 hmc ed e0 e1 e2 e3 e4 s0 s1 s2
                    go_cut [7] from 24 to 84 (fun v wx => MidAt W0 kb t pq pn pcq qp (Lx3 ++ keepS R fr n) v wx)
                    case first =>
                      by_cases hft : fr < n
                      · have hft' : (fr : Int) < (n : Int) := by omega
                        go_wp2_with fail
                        have hN3 := hN.grown hB03
                        have hBq : Below W3.heap.size W3 W3.drew := (Below.refl _ _).drew
                        have hown4 := owns_below hBq HO3.out
                        have hz3 := hB03.size
                        have ZO := hid (And.intro r0 (And.intro r1 (And.intro r2 (And.intro q3 q4))))
                        have hA0 : 0 = 0 := rfl
                        go_region_held3 (fun w' : World => w'.cell? ⟨w.heap.size, 0, none⟩ = some (.slice wa wn wk) ∧ w'.cell? ⟨w.heap.size, 1, none⟩ = some (.int .i64 out) ∧ w'.cell? ⟨w.heap.size, 2, none⟩ = some (.int .i64 win) ∧ w'.cell? ⟨kb, 3, none⟩ = some (.int .i64 (t : Int)) ∧ w'.cell? ⟨kb, 4, none⟩ = some (.slice pq pn pcq)) (first | with_reducible exact ⟨r0, r1, r2, q3, q4⟩ | with_reducible exact ⟨cell_grown hBq r0, cell_grown hBq r1, cell_grown hBq r2, cell_grown hBq q3, cell_grown hBq q4⟩ | exact ⟨cell_grown (below_alloc _ _) r0, cell_grown (below_alloc _ _) r1, cell_grown (below_alloc _ _) r2, cell_grown (below_alloc _ _) q3, cell_grown (below_alloc _ _) q4⟩)
                          (first
                          | (clear hA0
                             go_at_call 47
                             refine (olds_to R out win wn wk wa fr n _ HR.out (by omega) (hN3.grown hBq) hfn hlt).mono ?_
                             rintro e w4 ⟨ta, tc, rfl, hT, hTF0, hb4⟩
                             have hTF : ∀ bb o m, ta = some ⟨bb, o, m⟩ → W3.heap.size ≤ bb := fun bb o m e => Nat.le_trans hBq.size (hTF0 bb o m e).1
                             clear hTF0
                             have hBn := hBq.trans (hb4.mono hBq.size)
                             replace r0 := cell_grown hBn ZO.out.1
                             replace r1 := cell_grown hBn ZO.out.2.1
                             replace r2 := cell_grown hBn ZO.out.2.2.1
                             replace q3 := cell_grown hBn ZO.out.2.2.2.1
                             replace q4 := cell_grown hBn ZO.out.2.2.2.2
                             clear hBq
                             have hBq := hBn
                             clear hBn
                             try clear hown4
                             try clear hz4
                             have hz4 := hBq.size
                             have hown4 := owns_below hBq HO3.out)
                          | (go_at_call 47
                             refine (olds_to R out win wn wk wa fr n _ HR.out (by omega) (hN3.grown hBq) hfn hlt).mono ?_
                             rintro e w4 ⟨ua, uc, rfl, hU, hUF0, hb4⟩
                             have hUF : ∀ bb o m, ua = some ⟨bb, o, m⟩ → W3.heap.size ≤ bb := fun bb o m e => Nat.le_trans hBq.size (hUF0 bb o m e).1
                             clear hUF0
                             replace hT := hT.grown hb4
                             have hBn := hBq.trans (hb4.mono hBq.size)
                             replace r0 := cell_grown hBn ZO.out.1
                             replace r1 := cell_grown hBn ZO.out.2.1
                             replace r2 := cell_grown hBn ZO.out.2.2.1
                             replace q3 := cell_grown hBn ZO.out.2.2.2.1
                             replace q4 := cell_grown hBn ZO.out.2.2.2.2
                             clear hBq
                             have hBq := hBn
                             clear hBn
                             try clear hown4
                             try clear hz4
                             have hz4 := hBq.size
                             have hown4 := owns_below hBq HO3.out)
                          | (refine step_append_lies _ rfl _ _ 78 rfl W0.heap.size 85 i9 (.agg #[.slice none 0 0, .slice none 0 0, .int .i64 0]) 3 56 Tryz.underlying78 hi9 hz0 hz1 hz2 rfl (by decide) _ l3 _ rfl (hown4.alloc (.cells #[.slice ta (n - fr : Nat) tc, .slice ua (n - fr : Nat) uc, .int .i64 (-1)] 85)) ⟨w4.heap.size, 0, none⟩ 1 1 [.slice ta (n - fr : Nat) tc, .slice ua (n - fr : Nat) uc, .int .i64 (-1)] rfl rfl (cells_new w4 #[.slice ta (n - fr : Nat) tc, .slice ua (n - fr : Nat) uc, .int .i64 (-1)] 85) (fun x hx => by simp at hx; rcases hx with rfl | rfl | rfl <;> rfl) (by omega) (by unfold maxLen; omega) (by omega) (by simp; omega) (w4.heap.size + 1) (by simp) ?_
                             intro g cp w5 hown' hgrow hat hlt'
                             have HG : Hid ((w4.alloc (.cells #[.slice ta (n - fr : Nat) tc, .slice ua (n - fr : Nat) uc, .int .i64 (-1)] 85)).grownBy w5 (Value.slice va3 l3 vc3).ownBlock) := hid hgrow
                             have HAT := hid hat
                             have hbl : ∀ bb, bb < W3.heap.size → (Value.slice va3 l3 vc3).ownBlock ≠ some bb → w5.heap[bb]? = W3.heap[bb]? := fun bb h2 h3 => by rw [HG.out.block bb (by rw [World.size_alloc]; omega) (fun e => h3 e.symm), Below.heap_alloc _ _ _ (by omega)]; exact hBq.block bb h2
                             have hb5 : Below W0.heap.size w4 w5 := below_of_grown (Below.refl _ _) hown4 HG.out (by omega)
                             have hB5 : Below W0.heap.size W0 w5 := (hB03.trans (hBq.mono hz3)).trans hb5
                             replace r0 := cell_grown hB5 y0
                             replace r1 := cell_grown hB5 y1
                             replace r2 := cell_grown hB5 y2
                             replace q3 := (World.cell?_of_block (w := W3) (hbl kb hkb3 hkv3)).trans ZO.out.2.2.2.1
                             replace q4 := (World.cell?_of_block (w := W3) (hbl kb hkb3 hkv3)).trans ZO.out.2.2.2.2
                             clear hgrow hat))
                        all_goals
                          have hO5 := hid hown'
                          have hok4 : SegsIn w4 (.slice va3 l3 vc3) xs3 Lx3 := HOK3.out.moved (fun bb h2 h3 => ⟨hBq.block bb h2, h3⟩)
                          have hfar : ∀ bb, W3.heap.size ≤ bb → (Value.slice va3 l3 vc3).ownBlock ≠ some bb := fun bb h1 h2 => by have := (HO3.out.lt bb h2).2; omega
                          have hseg : SegL w5 W0.heap.size (.slice (some ⟨g, 0, none⟩) (l3 + 1) cp) (Lx3 ++ [(textsM R fr (n - fr), textsM R fr (n - fr), -1)]) := SegL.step (s := (textsM R fr (n - fr), textsM R fr (n - fr), -1)) hok4 (textsM_length HR.out (by omega)) (textsM_length HR.out (by omega)) hT hU (fun bb o m e _ => hfar bb (hTF bb o m e)) (fun bb o m e _ => hfar bb (hUF bb o m e)) (by rw [List.length_append, HL3.out]; rfl) hO5.out HG.out HAT.out
                          have hkv5 : (Value.slice (some ⟨g, 0, none⟩) (l3 + 1) cp).ownBlock ≠ some kb := fun h => by
                            have h5 : g = kb := by simpa [Value.ownBlock] using h
                            rcases HAT.out with h6 | h6
                            · exact hkv3 (by rw [← h5]; exact h6)
                            · omega
                          have hpv5 : ∀ bb o m, pq = some ⟨bb, o, m⟩ → 0 < qp.length → (Value.slice (some ⟨g, 0, none⟩) (l3 + 1) cp).ownBlock ≠ some bb := fun bb o m e hl h => by
                            have h5 : g = bb := by simpa [Value.ownBlock] using h
                            rcases HAT.out with h6 | h6
                            · exact hpv3 bb o m e hl (by rw [← h5]; exact h6)
                            · obtain ⟨b', o', e', hc⟩ := e6 0 hl
                              rw [e] at e'
                              cases e'
                              have := lt_of_cell hc
                              omega
                          have hkeep : keepS R fr n = [(textsM R fr (n - fr), textsM R fr (n - fr), -1)] := by unfold keepS; rw [if_pos hft]
                          rw [← hkeep] at hseg
                          have HM : Hid (MidAt W0 kb t pq pn pcq qp (Lx3 ++ keepS R fr n) (.slice (some ⟨g, 0, none⟩) (l3 + 1) cp) w5) := hid ⟨hseg, hB5, q3, q4, hkv5, hpv5⟩
                          clear hseg hok4 hO5 hown' HG HAT hbl hb5 hfar hT hU hTF hUF hown4 hBq hb4 hz4 ZO r0 r1 r2 q3 q4 hkv5 hpv5 hkeep hB5
                          go_wp2_with fail
                          go_meet
                          case rel => exact HM.out
                      · have hft' : ¬ (fr : Int) < (n : Int) := by omega
                        have hkeep : Lx3 ++ keepS R fr n = Lx3 := by unfold keepS; rw [if_neg hft, List.append_nil]
                        have hseg : SegL W3 W0.heap.size (.slice va3 l3 vc3) Lx3 := ⟨xs3, by rw [HL3.out]; exact HO3.out, HOK3.out⟩
                        have HM : Hid (MidAt W0 kb t pq pn pcq qp (Lx3 ++ keepS R fr n) (.slice va3 l3 vc3) W3) := hid (by rw [hkeep]; exact ⟨hseg, hB03, q3, q4, hkv3, hpv3⟩)
                        clear hseg hkeep
                        go_wp2_with fail
                        go_meet
                        case rel => exact HM.out
                    case rest =>
                      obtain ⟨hseg, hbw, c3, c4, hkv4, hpv4⟩ := hcut
                      clear r0 r1 r2 q3 q4 hkv3 hpv3 HO3 HOK3 hkb3 hB03 hB2 z2
                      have r0 := cell_grown hbw y0
                      have r1 := cell_grown hbw y1
                      have r2 := cell_grown hbw y2
                      have q3 := c3
                      have q4 := c4
                      have hkv3 := hkv4
                      have hpv3 := hpv4
                      clear c3 c4 hkv4 hpv4
                      obtain ⟨xs4, hown, hsok⟩ := hseg
                      obtain ⟨X, hX⟩ : ∃ X, Lx3 ++ keepS R fr n = X := ⟨_, rfl⟩
                      have hXl : X.length ≤ 40001 := by rw [← hX, List.length_append]; have := keepS_length (R := R) (a := fr) (b := n); have := HL3.out; omega
                      rw [hX] at hown hsok
                      have HXX := hid hX
                      clear hX
                      obtain ⟨l4, hl4⟩ : ∃ n, X.length = n := ⟨_, rfl⟩
                      rw [hl4] at hown hXl
                      obtain ⟨va4, vc4, rfl⟩ := owns_shape hown
                      have HL4 := hid hl4
                      clear hl4
                      obtain ⟨Wx, hWx⟩ : ∃ W, W = wc := ⟨_, rfl⟩
                      rw [← hWx] at hown hsok hbw r0 r1 r2 q3 q4 ⊢
                      clear hWx
                      have HO4 := hid hown
                      have HOK4 := hid hsok
                      clear hown hsok
                      have gk := lt_of_cell q3
                      have hw16 : IntKind.i64.wrap ((n : Int) + (t : Int)) = (n : Int) + (t : Int) := by rw [IntKind.wrap_i64]; omega
                      go_wp2_with fail
                      have hN3 := hN.grown hbw
                      have hBq : Below Wx.heap.size Wx Wx.drew := (Below.refl _ _).drew
                      have hown4 := owns_below hBq HO4.out
                      have hz3 := hbw.size
                      have ZO := hid (And.intro r0 (And.intro r1 (And.intro r2 (And.intro q3 q4))))
                      go_region_held3 (fun w' : World => w'.cell? ⟨w.heap.size, 0, none⟩ = some (.slice wa wn wk) ∧ w'.cell? ⟨w.heap.size, 1, none⟩ = some (.int .i64 out) ∧ w'.cell? ⟨w.heap.size, 2, none⟩ = some (.int .i64 win) ∧ w'.cell? ⟨kb, 3, none⟩ = some (.int .i64 (t : Int)) ∧ w'.cell? ⟨kb, 4, none⟩ = some (.slice pq pn pcq)) (first | with_reducible exact ⟨r0, r1, r2, q3, q4⟩ | with_reducible exact ⟨cell_grown hBq r0, cell_grown hBq r1, cell_grown hBq r2, cell_grown hBq q3, cell_grown hBq q4⟩ | exact ⟨cell_grown (below_alloc _ _) r0, cell_grown (below_alloc _ _) r1, cell_grown (below_alloc _ _) r2, cell_grown (below_alloc _ _) q3, cell_grown (below_alloc _ _) q4⟩)
                        (first
                        | (go_at_call 47
                           refine (olds_new R out win wn wk wa n t _ HR.out (by omega) (hN3.grown hBq) (by omega)).mono ?_
                           rintro e w4 ⟨ta, tc, rfl, hT, hTF0, hb4⟩
                           have hTF : ∀ bb o m, ta = some ⟨bb, o, m⟩ → Wx.heap.size ≤ bb := fun bb o m e => Nat.le_trans hBq.size (hTF0 bb o m e).1
                           clear hTF0
                           have hBn := hBq.trans (hb4.mono hBq.size)
                           replace r0 := cell_grown hBn ZO.out.1
                           replace r1 := cell_grown hBn ZO.out.2.1
                           replace r2 := cell_grown hBn ZO.out.2.2.1
                           replace q3 := cell_grown hBn ZO.out.2.2.2.1
                           replace q4 := cell_grown hBn ZO.out.2.2.2.2
                           clear hBq
                           have hBq := hBn
                           clear hBn
                           try clear hown4
                           try clear hz4
                           have hz4 := hBq.size
                           have hown4 := owns_below hBq HO4.out)
                        | (refine step_append_lies _ rfl _ _ 78 rfl W0.heap.size 85 i9 (.agg #[.slice none 0 0, .slice none 0 0, .int .i64 0]) 3 56 Tryz.underlying78 hi9 hz0 hz1 hz2 rfl (by decide) _ l4 _ rfl (hown4.alloc (.cells #[.slice ta t tc, .slice pq pn pcq, .int .i64 (k : Int)] 85)) ⟨w4.heap.size, 0, none⟩ 1 1 [.slice ta t tc, .slice pq pn pcq, .int .i64 (k : Int)] rfl rfl (cells_new w4 #[.slice ta t tc, .slice pq pn pcq, .int .i64 (k : Int)] 85) (fun x hx => by simp at hx; rcases hx with rfl | rfl | rfl <;> rfl) (by omega) (by unfold maxLen; omega) (by omega) (by simp; omega) (w4.heap.size + 1) (by simp) ?_
                           intro g cp w5 hown' hgrow hat hlt'
                           have HG : Hid ((w4.alloc (.cells #[.slice ta t tc, .slice pq pn pcq, .int .i64 (k : Int)] 85)).grownBy w5 (Value.slice va4 l4 vc4).ownBlock) := hid hgrow
                           have HAT := hid hat
                           have hbl : ∀ bb, bb < Wx.heap.size → (Value.slice va4 l4 vc4).ownBlock ≠ some bb → w5.heap[bb]? = Wx.heap[bb]? := fun bb h2 h3 => by rw [HG.out.block bb (by rw [World.size_alloc]; omega) (fun e => h3 e.symm), Below.heap_alloc _ _ _ (by omega)]; exact hBq.block bb h2
                           have hb5 : Below W0.heap.size w4 w5 := below_of_grown (Below.refl _ _) hown4 HG.out (by omega)
                           have hB5 : Below W0.heap.size W0 w5 := (hbw.trans (hBq.mono hz3)).trans hb5
                           replace r0 := cell_grown hB5 y0
                           replace r1 := cell_grown hB5 y1
                           replace r2 := cell_grown hB5 y2
                           replace q3 := (World.cell?_of_block (w := Wx) (hbl kb gk hkv3)).trans ZO.out.2.2.2.1
                           replace q4 := (World.cell?_of_block (w := Wx) (hbl kb gk hkv3)).trans ZO.out.2.2.2.2
                           clear hgrow hat))
                      all_goals
                        have hO5 := hid hown'
                        have hok4 : SegsIn w4 (.slice va4 l4 vc4) xs4 X := HOK4.out.moved (fun bb h2 h3 => ⟨hBq.block bb h2, h3⟩)
                        have hfar : ∀ bb, Wx.heap.size ≤ bb → (Value.slice va4 l4 vc4).ownBlock ≠ some bb := fun bb h1 h2 => by have := (HO4.out.lt bb h2).2; omega
                        have hseg : SegL w5 W0.heap.size (.slice (some ⟨g, 0, none⟩) (l4 + 1) cp) (X ++ [(textsM R n t, qp, (k : Int))]) := SegL.step (s := (textsM R n t, qp, (k : Int))) hok4 (textsM_length HR.out (by omega)) HPN.out hT (e6.grown (hbw.trans (hBq.mono hz3))) (fun bb o m e _ => hfar bb (hTF bb o m e)) (fun bb o m e hl => hpv3 bb o m e hl) (by rw [List.length_append, HL4.out]; rfl) hO5.out HG.out HAT.out
                        have HSEG := hid hseg
                        have HB5 := hid hB5
                        have HA5 : Hid (AtE W0 R L (enumU L D rn n c (k + 1)) (.slice (some ⟨g, 0, none⟩) (l4 + 1) cp) (.int .i64 ((n : Int) + (t : Int))) w5) := hid (by
                          rw [HNX.out]
                          exact ⟨by rw [HST.out]; simp, by rw [HST.out, HXX.out]; exact HSEG.out, HB5.out⟩)
                        clear hseg hok4 hO5 hown' HG HAT hbl hb5 hfar hT hTF hown4 hBq hb4 hz4 ZO HO4 HOK4 hpv3 HSEG
                        go_wp2
                        go_roundw
                        case rel => exact ⟨k + 1, _, by omega, by go_num, rfl, HA5⟩
                        case measure => simp [intOf]; omega
                  · have h3' : (mc != (c : Int)) = true := by simpa using h3
                    have HNX : Hid (AtE W0 R L (enumU L D rn n c (k + 1)) v (.int .i64 (fr : Int)) wr) := hid (by rw [enumU_next hcl, hpk, HEE.out]; simp [h3]; exact HK.out)
                    clear hpk
                    go_wp2
                    go_roundw
                    case rel => exact ⟨k + 1, _, by omega, by go_num, rfl, hid (HNX.out.grown (below_alloc _ _))⟩
                    case measure => simp [intOf]; omega
                · have h2' : (qf != (n : Int)) = true := by simpa using h2
                  have HNX : Hid (AtE W0 R L (enumU L D rn n c (k + 1)) v (.int .i64 (fr : Int)) wr) := hid (by rw [enumU_next hcl, hpk, HEE.out]; simp [h2]; exact HK.out)
                  clear hpk
                  go_wp2
                  go_roundw
                  case rel => exact ⟨k + 1, _, by omega, by go_num, rfl, hid (HNX.out.grown (below_alloc _ _))⟩
                  case measure => simp [intOf]; omega
              · have h1' : (d != 0) = true := by simpa using h1
                have HNX : Hid (AtE W0 R L (enumU L D rn n c (k + 1)) v (.int .i64 (fr : Int)) wr) := hid (by rw [enumU_next hcl, hpk, HEE.out]; simp [h1]; exact HK.out)
                clear hpk
                go_wp2
                go_roundw
                case rel => exact ⟨k + 1, _, by omega, by go_num, rfl, hid (HNX.out.grown (below_alloc _ _))⟩
                case measure => simp [intOf]; omega
            · have hkn : k = rn := by omega
              subst hkn
              have hkl' : ¬ (k : Int) < (k : Int) := by omega
              go_wp2
              go_roundw
              case rel => exact ⟨c + 1, by omega, by go_num, hid (by
                rcases (by omega : c = 0 ∨ c = 1) with rfl | rfl
                · rw [if_neg (by omega), enumU_cut]; exact HK.out
                · rw [if_pos rfl]; exact HK.out)⟩
              case measure => simp [intOf]; omega
        · have hc2 : c = 2 := by omega
          subst hc2
          rw [if_pos rfl] at HC
          go_wp2
          go_roundw
          case rel => exact ⟨n + 1, by omega, by go_num, hid (by rw [enumU_at]; exact HC.out)⟩
          case measure => simp [intOf]; omega
    · have hn1 : n = wn + 1 := by omega
      subst hn1
      have hlt' : ¬ ((wn + 1 : Nat) : Int) ≤ (wn : Int) := by omega
      rw [enumU_full] at HA hfr
      obtain ⟨E, hE9⟩ : ∃ E, enumA L D rn (wn + 1) = E := ⟨_, rfl⟩
      have hElen := enumA_length (L := L) (D := D) (rn := rn) (wn + 1)
      have hfit := runE_end (R := R) (L := L) (E := E) (B := []) (n := (wn : Int)) (by rw [← hE9, List.append_nil]; exact HF.out)
      have h2 := runE_length (R := R) (L := L) (E := E)
      have h3 : (wn + 1) * (2 * rn) ≤ 91 * 200 := Nat.mul_le_mul (by omega) (by omega)
      rw [hE9] at HA hElen hfr
      have hseg := HA.out.seg
      obtain ⟨fr, hfr9⟩ : ∃ m, (runE R L E).2 = m := ⟨_, rfl⟩
      obtain ⟨Lx3, hLx⟩ : ∃ X, (runE R L E).1 = X := ⟨_, rfl⟩
      rw [hfr9] at hfit hfr
      subst hfr
      have hsM : segM R (putM L) ((enumA L D rn (wn + 1)).map (askI L)) = Lx3 ++ keepS R fr wn := by
        rw [hE9, ← hLx, ← hfr9, ← HR.out]
        rfl
      have HSM := hid hsM
      rw [hLx] at hseg h2
      have hlen : Lx3.length ≤ 40000 := by omega
      obtain ⟨xs3, hown, hsok⟩ := hseg
      obtain ⟨l3, hln⟩ : ∃ n, Lx3.length = n := ⟨_, rfl⟩
      rw [hln] at hown hlen
      obtain ⟨va3, vc3, rfl⟩ := owns_shape hown
      have HL3 := hid hln
      obtain ⟨W3, hW3⟩ : ∃ W, W = wr := ⟨_, rfl⟩
      rw [← hW3] at hown hsok hBr r0 r1 r2 hzr ⊢
      have HO3 := hid hown
      have HOK3 := hid hsok
      have hB03 := hBr
      clear hW3 HA hE9 hElen h2 h3 hfr9 hLx hsM hln hown hsok hBr hQ hE
      by_cases hft : fr < wn
      · have hft' : (fr : Int) < (wn : Int) := by omega
        go_wp2_with fail
        have hN3 := hN.grown hB03
        have hBq : Below W3.heap.size W3 W3.drew := (Below.refl _ _).drew
        have hown4 := owns_below hBq HO3.out
        have hz3 := hB03.size
        have ZO := hid (And.intro r0 (And.intro r1 r2))
        have hA0 : 0 = 0 := rfl
        go_region_held3 (fun w' : World => w'.cell? ⟨w.heap.size, 0, none⟩ = some (.slice wa wn wk) ∧ w'.cell? ⟨w.heap.size, 1, none⟩ = some (.int .i64 out) ∧ w'.cell? ⟨w.heap.size, 2, none⟩ = some (.int .i64 win)) (first | with_reducible exact ⟨r0, r1, r2⟩ | with_reducible exact ⟨cell_grown hBq r0, cell_grown hBq r1, cell_grown hBq r2⟩ | exact ⟨cell_grown (below_alloc _ _) r0, cell_grown (below_alloc _ _) r1, cell_grown (below_alloc _ _) r2⟩)
          (first
          | (clear hA0
             go_at_call 47
             refine (olds_to R out win wn wk wa fr wn _ HR.out (by omega) (hN3.grown hBq) (by omega) (Nat.le_refl _)).mono ?_
             rintro e w4 ⟨ta, tc, rfl, hT, hTF0, hb4⟩
             have hTF : ∀ bb o m, ta = some ⟨bb, o, m⟩ → W3.heap.size ≤ bb := fun bb o m e => Nat.le_trans hBq.size (hTF0 bb o m e).1
             clear hTF0
             have hBn := hBq.trans (hb4.mono hBq.size)
             replace r0 := cell_grown hBn ZO.out.1
             replace r1 := cell_grown hBn ZO.out.2.1
             replace r2 := cell_grown hBn ZO.out.2.2
             clear hBq
             have hBq := hBn
             clear hBn
             try clear hown4
             try clear hz4
             have hz4 := hBq.size
             have hown4 := owns_below hBq HO3.out)
          | (go_at_call 47
             refine (olds_to R out win wn wk wa fr wn _ HR.out (by omega) (hN3.grown hBq) (by omega) (Nat.le_refl _)).mono ?_
             rintro e w4 ⟨ua, uc, rfl, hU, hUF0, hb4⟩
             have hUF : ∀ bb o m, ua = some ⟨bb, o, m⟩ → W3.heap.size ≤ bb := fun bb o m e => Nat.le_trans hBq.size (hUF0 bb o m e).1
             clear hUF0
             replace hT := hT.grown hb4
             have hBn := hBq.trans (hb4.mono hBq.size)
             replace r0 := cell_grown hBn ZO.out.1
             replace r1 := cell_grown hBn ZO.out.2.1
             replace r2 := cell_grown hBn ZO.out.2.2
             clear hBq
             have hBq := hBn
             clear hBn
             try clear hown4
             try clear hz4
             have hz4 := hBq.size
             have hown4 := owns_below hBq HO3.out)
          | (refine step_append_lies _ rfl _ _ 78 rfl W0.heap.size 85 i9 (.agg #[.slice none 0 0, .slice none 0 0, .int .i64 0]) 3 56 Tryz.underlying78 hi9 hz0 hz1 hz2 rfl (by decide) _ l3 _ rfl (hown4.alloc (.cells #[.slice ta (wn - fr : Nat) tc, .slice ua (wn - fr : Nat) uc, .int .i64 (-1)] 85)) ⟨w4.heap.size, 0, none⟩ 1 1 [.slice ta (wn - fr : Nat) tc, .slice ua (wn - fr : Nat) uc, .int .i64 (-1)] rfl rfl (cells_new w4 #[.slice ta (wn - fr : Nat) tc, .slice ua (wn - fr : Nat) uc, .int .i64 (-1)] 85) (fun x hx => by simp at hx; rcases hx with rfl | rfl | rfl <;> rfl) (by omega) (by unfold maxLen; omega) (by omega) (by simp; omega) (w4.heap.size + 1) (by simp) ?_
             intro g cp w5 hown' hgrow hat hlt'
             have HG : Hid ((w4.alloc (.cells #[.slice ta (wn - fr : Nat) tc, .slice ua (wn - fr : Nat) uc, .int .i64 (-1)] 85)).grownBy w5 (Value.slice va3 l3 vc3).ownBlock) := hid hgrow
             have HAT := hid hat
             have hbl : ∀ bb, bb < W3.heap.size → (Value.slice va3 l3 vc3).ownBlock ≠ some bb → w5.heap[bb]? = W3.heap[bb]? := fun bb h2 h3 => by rw [HG.out.block bb (by rw [World.size_alloc]; omega) (fun e => h3 e.symm), Below.heap_alloc _ _ _ (by omega)]; exact hBq.block bb h2
             have hb5 : Below W0.heap.size w4 w5 := below_of_grown (Below.refl _ _) hown4 HG.out (by omega)
             have hB5 : Below W0.heap.size W0 w5 := (hB03.trans (hBq.mono hz3)).trans hb5
             replace r0 := cell_grown hB5 y0
             replace r1 := cell_grown hB5 y1
             replace r2 := cell_grown hB5 y2
             clear hgrow hat))
        all_goals
          have hO5 := hid hown'
          have hok4 : SegsIn w4 (.slice va3 l3 vc3) xs3 Lx3 := HOK3.out.moved (fun bb h2 h3 => ⟨hBq.block bb h2, h3⟩)
          have hfar : ∀ bb, W3.heap.size ≤ bb → (Value.slice va3 l3 vc3).ownBlock ≠ some bb := fun bb h1 h2 => by have := (HO3.out.lt bb h2).2; omega
          have hkeep : keepS R fr wn = [(textsM R fr (wn - fr), textsM R fr (wn - fr), -1)] := by unfold keepS; rw [if_pos hft]
          have hseg : SegL w5 W0.heap.size (.slice (some ⟨g, 0, none⟩) (l3 + 1) cp) (Lx3 ++ [(textsM R fr (wn - fr), textsM R fr (wn - fr), -1)]) := SegL.step (s := (textsM R fr (wn - fr), textsM R fr (wn - fr), -1)) hok4 (textsM_length HR.out (by omega)) (textsM_length HR.out (by omega)) hT hU (fun bb o m e _ => hfar bb (hTF bb o m e)) (fun bb o m e _ => hfar bb (hUF bb o m e)) (by rw [List.length_append, HL3.out]; rfl) hO5.out HG.out HAT.out
          obtain ⟨xs5, ho5, hi5⟩ := hseg
          rw [← hkeep] at ho5 hi5
          have hln5 : (Lx3 ++ keepS R fr wn).length = l3 + 1 := by rw [hkeep, List.length_append, HL3.out]; rfl
          have hSA := segs_of_in hi5 (by rw [← hln5] at ho5 ⊢; exact ho5) hln5
          have HSA := hid hSA
          have HLN := hid hln5
          have HB5 := hid (below_then hB0 (show Below W0.heap.size W0 w5 from hB5))
          clear hSA ho5 hi5 hkeep hok4 hO5 hown' HG HAT hbl hb5 hfar hT hU hTF hUF hown4 hBq hb4 hz4 ZO hln5
          go_wp2
          go_ret
          have hfin : RefVersionsPost (Lx3 ++ keepS R fr wn) w (.returned (.slice (some ⟨g, 0, none⟩) (l3 + 1) cp)) w5 := ⟨_, _, by rw [HLN.out], HSA.out, HB5.out⟩
          rw [← HSM.out] at hfin
          exact hfin
      · have hft' : ¬ (fr : Int) < (wn : Int) := by omega
        have hkeep : Lx3 ++ keepS R fr wn = Lx3 := by unfold keepS; rw [if_neg hft, List.append_nil]
        have hSA := segs_of_in HOK3.out HO3.out HL3.out
        have HSA := hid hSA
        have HB5 := hid (below_then hB0 hB03)
        clear hSA
        rw [hkeep] at HSM
        go_wp2
        go_ret
        have hfin : RefVersionsPost Lx3 w (.returned (.slice va3 l3 vc3)) W3 := ⟨_, _, by rw [HL3.out], HSA.out, HB5.out⟩
        rw [← HSM.out] at hfin
        exact hfin

end Go.Proofs.YtbampfkmgjfofaaGreatDoor
