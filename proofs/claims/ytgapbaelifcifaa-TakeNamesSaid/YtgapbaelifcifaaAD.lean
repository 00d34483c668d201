/- Contract of the method at of a standing. Maps whose keys are places: what a look-up and a store do. The search for a rota, in numbers: what can be gone on with, and how far. -/
import Derived.Test.YtgapbaelifcifaaD
import Derived.DeepKeys4
import Derived.Maps.Keyed
import Derived.RangeFuncBox
namespace Go.Proofs.Ytgapbaelifcifaa
open Go.RowKit

def zM (k h : Nat) : Nat := if h ≤ k then 0 else h

theorem zM_le {k h : Nat} (hle : h ≤ k) : zM k h = 0 := if_pos hle
theorem zM_gt {k h : Nat} (hle : ¬ h ≤ k) : zM k h = h := if_neg hle

def atRel (w : World) (k h0 h1 h2 h3 h4 : Nat) (j : Nat) (W : World) : Prop :=
  match j with
  | 0 => W = (w.alloc (.cells #[.int .i64 (h0 : Int), .int .i64 (h1 : Int), .int .i64 (h2 : Int), .int .i64 (h3 : Int), .int .i64 (h4 : Int)] 130)).alloc (.cells #[.int .i64 0, .int .i64 0, .int .i64 0, .int .i64 0, .int .i64 0] 130)
  | 1 => W = (w.alloc (.cells #[.int .i64 ((zM k h0 : Nat) : Int), .int .i64 (h1 : Int), .int .i64 (h2 : Int), .int .i64 (h3 : Int), .int .i64 (h4 : Int)] 130)).alloc (.cells #[.int .i64 0, .int .i64 0, .int .i64 0, .int .i64 0, .int .i64 0] 130)
  | 2 => W = (w.alloc (.cells #[.int .i64 ((zM k h0 : Nat) : Int), .int .i64 ((zM k h1 : Nat) : Int), .int .i64 (h2 : Int), .int .i64 (h3 : Int), .int .i64 (h4 : Int)] 130)).alloc (.cells #[.int .i64 0, .int .i64 0, .int .i64 0, .int .i64 0, .int .i64 0] 130)
  | 3 => W = (w.alloc (.cells #[.int .i64 ((zM k h0 : Nat) : Int), .int .i64 ((zM k h1 : Nat) : Int), .int .i64 ((zM k h2 : Nat) : Int), .int .i64 (h3 : Int), .int .i64 (h4 : Int)] 130)).alloc (.cells #[.int .i64 0, .int .i64 0, .int .i64 0, .int .i64 0, .int .i64 0] 130)
  | 4 => W = (w.alloc (.cells #[.int .i64 ((zM k h0 : Nat) : Int), .int .i64 ((zM k h1 : Nat) : Int), .int .i64 ((zM k h2 : Nat) : Int), .int .i64 ((zM k h3 : Nat) : Int), .int .i64 (h4 : Int)] 130)).alloc (.cells #[.int .i64 0, .int .i64 0, .int .i64 0, .int .i64 0, .int .i64 0] 130)
  | 5 => W = (w.alloc (.cells #[.int .i64 ((zM k h0 : Nat) : Int), .int .i64 ((zM k h1 : Nat) : Int), .int .i64 ((zM k h2 : Nat) : Int), .int .i64 ((zM k h3 : Nat) : Int), .int .i64 ((zM k h4 : Nat) : Int)] 130)).alloc (.cells #[.int .i64 0, .int .i64 0, .int .i64 0, .int .i64 0, .int .i64 0] 130)
  | _ => False

set_option maxRecDepth 100000 in
set_option maxHeartbeats 1000000 in
theorem at_any (h0 h1 h2 h3 h4 k : Nat) (w : World) (_ : k ≤ 1000) :
    Calls Try.prog 75 #[.agg #[.int .i64 (h0 : Int), .int .i64 (h1 : Int), .int .i64 (h2 : Int), .int .i64 (h3 : Int), .int .i64 (h4 : Int)], .int .i64 (k : Int)] w fun e w' => e = .returned (.agg #[.int .i64 ((zM k h0 : Nat) : Int), .int .i64 ((zM k h1 : Nat) : Int), .int .i64 ((zM k h2 : Nat) : Int), .int .i64 ((zM k h3 : Nat) : Int), .int .i64 ((zM k h4 : Nat) : Int)]) ∧ Below w.heap.size w w' := by
  go_enter Try.func75, Try.ntmps75
  go_wp2
  go_loopw [6] (fun i wr => ∃ j : Nat, j ≤ 5 ∧ i = .int .i64 j ∧ atRel w k h0 h1 h2 h3 h4 j wr) (fun i _ => 5 - (intOf i).toNat)
  case atStart => exact ⟨0, by omega, rfl, rfl⟩
  case round =>
    obtain ⟨j, hj, rfl, hR⟩ := hrel
    have hj5 : j = 0 ∨ j = 1 ∨ j = 2 ∨ j = 3 ∨ j = 4 ∨ j = 5 := by omega
    rcases hj5 with rfl | rfl | rfl | rfl | rfl | rfl
    · obtain rfl : wr = _ := hR
      by_cases hle : h0 ≤ k
      · have HZ := hid (zM_le hle)
        have hle' : ((h0 : Nat) : Int) ≤ (k : Int) := by omega
        clear hle
        go_wp2
        go_roundw
        case rel => exact ⟨1, by omega, rfl, by unfold atRel; rw [HZ.out]; rfl⟩
        case measure => simp [intOf]
      · have HZ := hid (zM_gt hle)
        have hle' : ¬ ((h0 : Nat) : Int) ≤ (k : Int) := by omega
        clear hle
        go_wp2
        go_roundw
        case rel => exact ⟨1, by omega, rfl, by unfold atRel; rw [HZ.out]; rfl⟩
        case measure => simp [intOf]
    · obtain rfl : wr = _ := hR
      by_cases hle : h1 ≤ k
      · have HZ := hid (zM_le hle)
        have hle' : ((h1 : Nat) : Int) ≤ (k : Int) := by omega
        clear hle
        go_wp2
        go_roundw
        case rel => exact ⟨2, by omega, rfl, by unfold atRel; rw [HZ.out]; rfl⟩
        case measure => simp [intOf]
      · have HZ := hid (zM_gt hle)
        have hle' : ¬ ((h1 : Nat) : Int) ≤ (k : Int) := by omega
        clear hle
        go_wp2
        go_roundw
        case rel => exact ⟨2, by omega, rfl, by unfold atRel; rw [HZ.out]; rfl⟩
        case measure => simp [intOf]
    · obtain rfl : wr = _ := hR
      by_cases hle : h2 ≤ k
      · have HZ := hid (zM_le hle)
        have hle' : ((h2 : Nat) : Int) ≤ (k : Int) := by omega
        clear hle
        go_wp2
        go_roundw
        case rel => exact ⟨3, by omega, rfl, by unfold atRel; rw [HZ.out]; rfl⟩
        case measure => simp [intOf]
      · have HZ := hid (zM_gt hle)
        have hle' : ¬ ((h2 : Nat) : Int) ≤ (k : Int) := by omega
        clear hle
        go_wp2
        go_roundw
        case rel => exact ⟨3, by omega, rfl, by unfold atRel; rw [HZ.out]; rfl⟩
        case measure => simp [intOf]
    · obtain rfl : wr = _ := hR
      by_cases hle : h3 ≤ k
      · have HZ := hid (zM_le hle)
        have hle' : ((h3 : Nat) : Int) ≤ (k : Int) := by omega
        clear hle
        go_wp2
        go_roundw
        case rel => exact ⟨4, by omega, rfl, by unfold atRel; rw [HZ.out]; rfl⟩
        case measure => simp [intOf]
      · have HZ := hid (zM_gt hle)
        have hle' : ¬ ((h3 : Nat) : Int) ≤ (k : Int) := by omega
        clear hle
        go_wp2
        go_roundw
        case rel => exact ⟨4, by omega, rfl, by unfold atRel; rw [HZ.out]; rfl⟩
        case measure => simp [intOf]
    · obtain rfl : wr = _ := hR
      by_cases hle : h4 ≤ k
      · have HZ := hid (zM_le hle)
        have hle' : ((h4 : Nat) : Int) ≤ (k : Int) := by omega
        clear hle
        go_wp2
        go_roundw
        case rel => exact ⟨5, by omega, rfl, by unfold atRel; rw [HZ.out]; rfl⟩
        case measure => simp [intOf]
      · have HZ := hid (zM_gt hle)
        have hle' : ¬ ((h4 : Nat) : Int) ≤ (k : Int) := by omega
        clear hle
        go_wp2
        go_roundw
        case rel => exact ⟨5, by omega, rfl, by unfold atRel; rw [HZ.out]; rfl⟩
        case measure => simp [intOf]
    · obtain rfl : wr = _ := hR
      go_wp2
      exact bodyPost_ret (v := .agg #[.int .i64 ((zM k h0 : Nat) : Int), .int .i64 ((zM k h1 : Nat) : Int), .int .i64 ((zM k h2 : Nat) : Int), .int .i64 ((zM k h3 : Nat) : Int), .int .i64 ((zM k h4 : Nat) : Int)]) (by simp [results, Try.f75, go_sem]) rfl ⟨rfl, by first | exact ((Below.refl _ _).alloc (Nat.le_refl _) _).alloc (by simp) _ | exact (((Below.refl _ _).alloc (Nat.le_refl _) _).alloc (by simp) _).setCell (by simp) _⟩

end Go.Proofs.Ytgapbaelifcifaa

namespace Go.Proofs.Ytgapbaelifcifaa
open Go.RowKit

theorem Try.laidOutX : laidOutB Try.prog = true := by kernel_rfl
theorem Try.row133 : (133 : TypeId) < Try.prog.types.size := of_decide_eq_true (by kernel_rfl)
set_option maxRecDepth 100000 in
theorem Try.wide133 : (match Try.prog.underlying 133 with | some (.array _ _) | some (.struct _) => true | _ => false) = true := by rw [Try.underlying133]
set_option maxRecDepth 100000 in
theorem placeLaw : WideMaps.KeyLaw Try.prog 133 := deep_law_laid Try.laidOutX (m := 6) (show 6 + 1 ≤ 10000 from by omega) Try.row133 (by kernel_rfl) Try.wide133

/-- A place, as the program holds it. -/
def placeV (t h0 h1 h2 h3 h4 : Nat) : Value := .agg #[.int .i64 (t : Int), .int .i64 (h0 : Int), .int .i64 (h1 : Int), .int .i64 (h2 : Int), .int .i64 (h3 : Int), .int .i64 (h4 : Int)]

theorem wfN {n : Nat} (h : n ≤ 1000) : (Lit.int .i64 (n : Int)).wf = true := WalkArith.wf_i64 (by omega)

theorem Try.size133 : Try.prog.types.size + 1 = 158 + 3 := by kernel_rfl
theorem Try.keyType133 : Try.prog.keyType 133 = true := by kernel_rfl

theorem lits3 (d n : Nat) (h : n ≤ 1000) : Try.prog.keyLits (d + 1) 3 [.int .i64 (n : Int)] = some [.int .i64 (n : Int)] := by
  unfold Program.keyLits
  rw [Try.underlying3]
  simp only [wfN h, and_self, if_true]
theorem Try.cells3 : Try.prog.cellsOf 3 = 1 := by kernel_rfl
theorem Try.cells130 : Try.prog.cellsOf 130 = 5 := by kernel_rfl
theorem Try.cells133 : Try.prog.cellsOf 133 = 6 := by kernel_rfl

theorem lits130 (d : Nat) {h0 h1 h2 h3 h4 : Nat} (b0 : h0 ≤ 1000) (b1 : h1 ≤ 1000) (b2 : h2 ≤ 1000) (b3 : h3 ≤ 1000) (b4 : h4 ≤ 1000) :
    ∃ ls, Try.prog.keyLits (d + 2) 130 [.int .i64 (h0 : Int), .int .i64 (h1 : Int), .int .i64 (h2 : Int), .int .i64 (h3 : Int), .int .i64 (h4 : Int)] = some ls := by
  unfold Program.keyLits
  rw [Try.underlying130]
  simp only [Try.cells130, Try.cells3, List.length_cons, List.length_nil, if_true]
  simp [List.range, List.range.loop, lits3 _ _ b0, lits3 _ _ b1, lits3 _ _ b2, lits3 _ _ b3, lits3 _ _ b4]

theorem place_key {t h0 h1 h2 h3 h4 : Nat} (b : t ≤ 1000) (b0 : h0 ≤ 1000) (b1 : h1 ≤ 1000) (b2 : h2 ≤ 1000) (b3 : h3 ≤ 1000) (b4 : h4 ≤ 1000) : ∃ l, keyOf Try.prog 133 (placeV t h0 h1 h2 h3 h4) = some l := by
  obtain ⟨ls, hl⟩ := lits130 158 b0 b1 b2 b3 b4
  have e : ∃ ls, Try.prog.keyLits (158 + 3) 133 [.int .i64 (t : Int), .int .i64 (h0 : Int), .int .i64 (h1 : Int), .int .i64 (h2 : Int), .int .i64 (h3 : Int), .int .i64 (h4 : Int)] = some ls := by
    unfold Program.keyLits
    rw [Try.underlying133]
    simp [Try.cells133, Try.cells130, Try.cells3, lits3 _ _ b, hl]
  obtain ⟨ls2, hl2⟩ := e
  refine ⟨.string (keyBytes ls2), ?_⟩
  unfold keyOf
  rw [Try.underlying133]
  have hf : (placeV t h0 h1 h2 h3 h4).formed Try.prog 133 = true := by
    simp [Value.formed, placeV, Try.underlying133, Try.cells133]
  simp only [Try.keyType133, hf, Bool.and_self, if_true, Try.size133]
  show (Try.prog.keyLits (158 + 3) 133 [.int .i64 (t : Int), .int .i64 (h0 : Int), .int .i64 (h1 : Int), .int .i64 (h2 : Int), .int .i64 (h3 : Int), .int .i64 (h4 : Int)]).map _ = _
  rw [hl2]
  rfl

/-- Block b is a map whose keys are places for which Dead holds. -/
def Tried (w : World) (b : Nat) (Dead : Nat → List Nat → Prop) : Prop :=
  ∃ es clock, w.heap[b]? = some (.map es clock) ∧ ∀ e ∈ es.toList, ∃ t h0 h1 h2 h3 h4, (t ≤ 1000 ∧ h0 ≤ 1000 ∧ h1 ≤ 1000 ∧ h2 ≤ 1000 ∧ h3 ≤ 1000 ∧ h4 ≤ 1000) ∧ e.key = placeV t h0 h1 h2 h3 h4 ∧ e.val = .bool true ∧ Dead t [h0, h1, h2, h3, h4]

theorem placeV_inj {t h0 h1 h2 h3 h4 t' h0' h1' h2' h3' h4' : Nat} (h : placeV t h0 h1 h2 h3 h4 = placeV t' h0' h1' h2' h3' h4') : t = t' ∧ [h0, h1, h2, h3, h4] = [h0', h1', h2', h3', h4'] := by
  simp [placeV] at h ⊢
  omega

theorem Try.zero4 (w : World) : (zeroValue 4).run Try.prog w = .ok (.bool false) w := by kernel_rfl
theorem Try.underlying127' : Try.prog.underlying 127 = some (.map 133 4) := Try.underlying127

theorem tried_keys {Dead : Nat → List Nat → Prop} {es : Array MapEntry} (he : ∀ e ∈ es.toList, ∃ t h0 h1 h2 h3 h4, (t ≤ 1000 ∧ h0 ≤ 1000 ∧ h1 ≤ 1000 ∧ h2 ≤ 1000 ∧ h3 ≤ 1000 ∧ h4 ≤ 1000) ∧ e.key = placeV t h0 h1 h2 h3 h4 ∧ e.val = .bool true ∧ Dead t [h0, h1, h2, h3, h4]) :
    ∀ e ∈ es.toList, ∃ l, keyOf Try.prog 133 e.key = some l := fun e hm => by
  obtain ⟨t, h0, h1, h2, h3, h4, ⟨c, c0, c1, c2, c3, c4⟩, hk, _⟩ := he e hm
  rw [hk]
  exact place_key c c0 c1 c2 c3 c4

theorem run_map_at {w : World} {b : Nat} {es : Array MapEntry} {clock : Nat} (hb : w.heap[b]? = some (.map es clock)) : (getObj b : Sem Obj).run Try.prog w = .ok (.map es clock) w := by
  simp [getObj, Sem.run, hb]

theorem run_map_set {w : World} {b : Nat} {es : Array MapEntry} {clock : Nat} (hb : w.heap[b]? = some (.map es clock)) (o : Obj) : (setObj b o : Sem Unit).run Try.prog w = .ok () (w.putObj b o) := by
  simp [setObj, Sem.run, hb, World.putObj]

theorem tried_look {w : World} {b : Nat} {Dead : Nat → List Nat → Prop} (h : Tried w b Dead) {t h0 h1 h2 h3 h4 : Nat} (c : t ≤ 1000) (c0 : h0 ≤ 1000) (c1 : h1 ≤ 1000) (c2 : h2 ≤ 1000) (c3 : h3 ≤ 1000) (c4 : h4 ≤ 1000) :
    ∃ r : Bool, (Instr.lookup 127 (.map (some b)) (placeV t h0 h1 h2 h3 h4) false).run Try.prog w = .ok (.bool r) w ∧ (r = true → Dead t [h0, h1, h2, h3, h4]) := by
  obtain ⟨es, clock, hb, he⟩ := h
  obtain ⟨l, hl⟩ := place_key c c0 c1 c2 c3 c4
  have hcheck := placeLaw.check w es.isEmpty hl
  rcases placeLaw.find w hl es.toList (tried_keys he) with ⟨hf, _⟩ | ⟨j, e, hf, hj, hk⟩
  · refine ⟨false, ?_, fun h => by cases h⟩
    simp [Instr.lookup, run_underlying Try.underlying127', hcheck, hf, run_map_at hb]
  · obtain ⟨t', h0', h1', h2', h3', h4', _, hk', hv, hd⟩ := he e (List.mem_of_getElem? hj)
    rw [hk'] at hk
    obtain ⟨e1, e2⟩ := placeV_inj hk
    refine ⟨true, ?_, fun _ => by rw [← e1, ← e2]; exact hd⟩
    simp [Instr.lookup, run_underlying Try.underlying127', hcheck, hf, hv, run_map_at hb]

theorem tried_store {w : World} {b : Nat} {Dead : Nat → List Nat → Prop} (h : Tried w b Dead) {t h0 h1 h2 h3 h4 : Nat} (c : t ≤ 1000) (c0 : h0 ≤ 1000) (c1 : h1 ≤ 1000) (c2 : h2 ≤ 1000) (c3 : h3 ≤ 1000) (c4 : h4 ≤ 1000) (hd : Dead t [h0, h1, h2, h3, h4]) :
    ∃ w', (Instr.mapUpdate 127 (.map (some b)) (placeV t h0 h1 h2 h3 h4) (.bool true)).run Try.prog w = .ok () w' ∧ Tried w' b Dead ∧ w.grownBy w' (some b) := by
  obtain ⟨es, clock, hb, he⟩ := h
  obtain ⟨l, hl⟩ := place_key c c0 c1 c2 c3 c4
  have hcheck := placeLaw.check w false hl
  have hlt := (Array.getElem?_eq_some_iff.1 hb).1
  rcases placeLaw.find w hl es.toList (tried_keys he) with ⟨hf, _⟩ | ⟨j, e, hf, hj, hk⟩
  · refine ⟨w.putObj b (.map (es.push { key := placeV t h0 h1 h2 h3 h4, val := .bool true, born := clock }) (clock + 1)), ?_, ⟨_, _, World.putObj_heap_same hlt, ?_⟩, grownBy_putObj' w b _⟩
    · simp [Instr.mapUpdate, run_underlying Try.underlying127', hcheck, hf, run_map_at hb, run_map_set hb]
    · intro e hm
      rw [Array.toList_push, List.mem_append] at hm
      rcases hm with hm | hm
      · exact he e hm
      · simp at hm
        subst hm
        exact ⟨t, h0, h1, h2, h3, h4, ⟨c, c0, c1, c2, c3, c4⟩, rfl, rfl, hd⟩
  · have hj' : es[j]? = some e := by simpa using hj
    have hstay := placeLaw.stays w hl
    refine ⟨w.putObj b (.map (es.modify j fun e => { e with key := placeV t h0 h1 h2 h3 h4, val := .bool true }) clock), ?_, ⟨_, _, World.putObj_heap_same hlt, ?_⟩, grownBy_putObj' w b _⟩
    · simp [Instr.mapUpdate, run_underlying Try.underlying127', hcheck, hf, hj', hk, hstay, run_map_at hb, run_map_set hb]
    · intro x hm
      rw [Array.mem_toList_iff] at hm
      obtain ⟨i, hi, rfl⟩ := Array.getElem_of_mem hm
      rw [Array.getElem_modify]
      split
      · exact ⟨t, h0, h1, h2, h3, h4, ⟨c, c0, c1, c2, c3, c4⟩, rfl, rfl, hd⟩
      · exact he _ (by simp)

end Go.Proofs.Ytgapbaelifcifaa

namespace Go.Proofs.Ytgapbaelifcifaa

/-- How a search goes: whether a reporter may have a take (the last argument: is the reporter free then?); the first take that it may have again; how many reporters and takes there are. -/
structure How where
  may : Nat → Nat → Bool → Bool
  ag : Nat → Nat → Nat
  cn : Nat
  tn : Nat

variable (p : How)

/-- May these reporters have the takes from k on, one after the other, xs the reporters stand? -/
def How.path : List Nat → Nat → List Nat → Prop
  | [], _, _ => True
  | r :: rs, k, H => k < p.tn ∧ r < p.cn ∧ p.may k r (decide (H.getD r 0 ≤ k)) = true ∧ How.path rs (k + 1) (H.set r (p.ag k r))

/-- How the reporters stand behind these takes. -/
def How.after : List Nat → Nat → List Nat → List Nat
  | [], _, H => H
  | r :: rs, k, H => How.after rs (k + 1) (H.set r (p.ag k r))

variable {p}

theorem How.path_append : ∀ (xs bs : List Nat) (k : Nat) (H : List Nat), p.path (xs ++ bs) k H ↔ p.path xs k H ∧ p.path bs (k + xs.length) (p.after xs k H) := by
  intro xs
  induction xs with
  | nil => intro bs k H; simp [How.path, How.after]
  | cons a xs ih =>
    intro bs k H
    simp only [List.cons_append, How.path, How.after, ih, List.length_cons]
    rw [show k + (xs.length + 1) = k + 1 + xs.length from by omega]
    constructor
    · rintro ⟨a, b, c, d, e⟩; exact ⟨⟨a, b, c, d⟩, e⟩
    · rintro ⟨⟨a, b, c, d⟩, e⟩; exact ⟨a, b, c, d, e⟩

theorem How.after_append : ∀ (xs bs : List Nat) (k : Nat) (H : List Nat), p.after (xs ++ bs) k H = p.after bs (k + xs.length) (p.after xs k H) := by
  intro xs
  induction xs with
  | nil => intro bs k H; simp [How.after]
  | cons a xs ih =>
    intro bs k H
    simp only [List.cons_append, How.after, ih, List.length_cons]
    rw [show k + (xs.length + 1) = k + 1 + xs.length from by omega]

theorem How.path_le : ∀ (rs : List Nat) (k : Nat) (H : List Nat), k ≤ p.tn → p.path rs k H → k + rs.length ≤ p.tn := by
  intro rs
  induction rs with
  | nil => intro k H hk _; simpa using hk
  | cons r rs ih =>
    intro k H hk h
    have := ih (k + 1) _ h.1 h.2.2.2
    simp only [List.length_cons]
    omega

/-- Two standings that allow the same from a take on. -/
def Alike (k : Nat) (H H' : List Nat) : Prop := H.length = H'.length ∧ ∀ r j, k ≤ j → (H.getD r 0 ≤ j ↔ H'.getD r 0 ≤ j)

theorem Alike.set {k : Nat} {H H' : List Nat} (h : Alike k H H') (r x : Nat) : Alike (k + 1) (H.set r x) (H'.set r x) := by
  refine ⟨by simp [h.1], fun q j hj => ?_⟩
  simp only [List.getD_eq_getElem?_getD, List.getElem?_set]
  by_cases e : r = q
  · subst e
    simp [h.1]
  · simp only [e, if_false]
    have := h.2 q j (by omega)
    simpa [List.getD_eq_getElem?_getD] using this

theorem How.path_alike : ∀ (rs : List Nat) (k : Nat) (H H' : List Nat), Alike k H H' → (p.path rs k H ↔ p.path rs k H') := by
  intro rs
  induction rs with
  | nil => intro k H H' _; exact Iff.rfl
  | cons r rs ih =>
    intro k H H' h
    simp only [How.path]
    rw [ih (k + 1) _ _ (h.set r (p.ag k r)), show (decide (H.getD r 0 ≤ k)) = decide (H'.getD r 0 ≤ k) from by rw [decide_eq_decide]; exact h.2 r k (Nat.le_refl _)]

theorem alike_zM (k : Nat) (H : List Nat) : Alike k H (H.map (zM k)) := by
  refine ⟨by simp, fun r j hj => ?_⟩
  simp only [List.getD_eq_getElem?_getD, List.getElem?_map]
  cases H[r]? with
  | none => simp
  | some x =>
    simp only [Option.map_some, Option.getD_some]
    unfold zM
    split <;> omega

/-- No way on from here comes to the end, and none comes further than rc. -/
def How.dead (p : How) (rc k : Nat) (H : List Nat) : Prop := ∀ rs, p.path rs k H → k + rs.length < p.tn ∧ k + rs.length ≤ rc

theorem How.dead_mono {rc rc' k : Nat} {H : List Nat} (h : p.dead rc k H) (hle : rc ≤ rc') : p.dead rc' k H := fun rs hp => ⟨(h rs hp).1, Nat.le_trans (h rs hp).2 hle⟩

theorem How.dead_alike {rc k : Nat} {H H' : List Nat} (h : p.dead rc k H) (ha : Alike k H H') : p.dead rc k H' := fun rs hp => h rs ((How.path_alike rs k H H' ha).2 hp)

/-- The least of lists of one length, compared one by one. -/
def lexLe : List Nat → List Nat → Prop
  | [], _ => True
  | _ :: _, [] => False
  | a :: xs, b :: bs => a < b ∨ (a = b ∧ lexLe xs bs)

/-- A way on to the end, and the least one. -/
def How.best (p : How) (rs : List Nat) (k : Nat) (H : List Nat) : Prop :=
  p.path rs k H ∧ k + rs.length = p.tn ∧ ∀ qs, p.path qs k H → k + qs.length = p.tn → lexLe rs qs

/-- None of the first n reporters goes on to the end, and none further than rc. -/
def How.deadTo (p : How) (rc n k : Nat) (H : List Nat) : Prop := ∀ r, r < n → ∀ rs, p.path (r :: rs) k H → k + (r :: rs).length < p.tn ∧ k + (r :: rs).length ≤ rc

theorem How.deadTo_mono {rc rc' n k : Nat} {H : List Nat} (h : p.deadTo rc n k H) (hle : rc ≤ rc') : p.deadTo rc' n k H := fun r hr rs hp => ⟨(h r hr rs hp).1, Nat.le_trans (h r hr rs hp).2 hle⟩

theorem How.deadTo_next {rc n k : Nat} {H : List Nat} (h : p.deadTo rc n k H) (hn : ∀ rs, p.path (n :: rs) k H → k + (n :: rs).length < p.tn ∧ k + (n :: rs).length ≤ rc) : p.deadTo rc (n + 1) k H := fun r hr rs hp => by
  by_cases e : r = n
  · subst e; exact hn rs hp
  · exact h r (by omega) rs hp

theorem How.dead_of_deadTo {rc k : Nat} {H : List Nat} (h : p.deadTo rc p.cn k H) (hk : k < p.tn) (hr : k ≤ rc) : p.dead rc k H := fun rs hp => by
  cases rs with
  | nil => exact ⟨by simpa using hk, by simpa using hr⟩
  | cons r rs => exact h r hp.2.1 rs hp

theorem How.no_of_dead {rc n k : Nat} {H : List Nat} (h : p.dead rc (k + 1) (H.set n (p.ag k n))) : ∀ rs, p.path (n :: rs) k H → k + (n :: rs).length < p.tn ∧ k + (n :: rs).length ≤ rc := fun rs hp => by
  have := h rs hp.2.2.2
  simp only [List.length_cons]
  omega

theorem How.best_cons {n k rc : Nat} {H rs : List Nat} (hn : n < p.cn) (hk : k < p.tn) (hm : p.may k n (decide (H.getD n 0 ≤ k)) = true) (hd : p.deadTo rc n k H) (hb : p.best rs (k + 1) (H.set n (p.ag k n))) : p.best (n :: rs) k H := by
  obtain ⟨h1, h2, h3⟩ := hb
  refine ⟨⟨hk, hn, hm, h1⟩, by simp only [List.length_cons]; omega, fun qs hq hl => ?_⟩
  cases qs with
  | nil => simp at hl; omega
  | cons q qs =>
    by_cases e : q < n
    · have := (hd q e qs hq).1
      omega
    · by_cases e' : q = n
      · subst e'
        exact Or.inr ⟨rfl, h3 qs hq.2.2.2 (by simp only [List.length_cons] at hl; omega)⟩
      · exact Or.inl (by omega)

end Go.Proofs.Ytgapbaelifcifaa
