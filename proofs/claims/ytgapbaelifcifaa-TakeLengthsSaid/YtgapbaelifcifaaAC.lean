/- Maps whose keys are places: what a look-up and a store do. -/
import Derived.Test.YtgapbaelifcifaaAB
import Derived.DeepKeys4
import Derived.Maps.Keyed
import Derived.RangeFuncBox
namespace Go.Proofs.Ytgapbaelifcifaa
open Go.RowKit

theorem Try.laidOutX : laidOutB Try.prog = true := by kernel_rfl
theorem Try.row133 : (133 : TypeId) < Try.prog.types.size := of_decide_eq_true (by kernel_rfl)
set_option maxRecDepth 100000 in
theorem Try.wide133 : (match Try.prog.underlying 133 with | some (.array _ _) | some (.struct _) => true | _ => false) = true := by rw [Try.underlying133]
set_option maxRecDepth 100000 in
theorem placeLaw : WideMaps.KeyLaw Try.prog 133 := deep_law_laid Try.laidOutX (m := 6) (show 6 + 1 ≤ 10000 from by omega) Try.row133 (by kernel_rfl) Try.wide133

/-- A place, as the program holds it. -/
def placeV (t h0 h1 h2 h3 h4 : Nat) : Value := .agg #[.int .i64 (t : Int), .int .i64 (h0 : Int), .int .i64 (h1 : Int), .int .i64 (h2 : Int), .int .i64 (h3 : Int), .int .i64 (h4 : Int)]

theorem wfN {n : Nat} (h : n ≤ 1000) : (Lit.int .i64 (n : Int)).wf = true := WalkArith.wf_i64 (by omega)

theorem Try.size133 : Try.prog.types.size + 1 = 158 + 3 := by kernel_rfl
theorem Try.keyType133 : Try.prog.keyType 133 = true := by kernel_rfl

theorem lits3 (d n : Nat) (h : n ≤ 1000) : Try.prog.keyLits (d + 1) 3 [.int .i64 (n : Int)] = some [.int .i64 (n : Int)] := by
  unfold Program.keyLits
  rw [Try.underlying3]
  simp only [wfN h, and_self, if_true]
theorem Try.cells3 : Try.prog.cellsOf 3 = 1 := by kernel_rfl
theorem Try.cells130 : Try.prog.cellsOf 130 = 5 := by kernel_rfl
theorem Try.cells133 : Try.prog.cellsOf 133 = 6 := by kernel_rfl

theorem lits130 (d : Nat) {h0 h1 h2 h3 h4 : Nat} (b0 : h0 ≤ 1000) (b1 : h1 ≤ 1000) (b2 : h2 ≤ 1000) (b3 : h3 ≤ 1000) (b4 : h4 ≤ 1000) :
    ∃ ls, Try.prog.keyLits (d + 2) 130 [.int .i64 (h0 : Int), .int .i64 (h1 : Int), .int .i64 (h2 : Int), .int .i64 (h3 : Int), .int .i64 (h4 : Int)] = some ls := by
  unfold Program.keyLits
  rw [Try.underlying130]
  simp only [Try.cells130, Try.cells3, List.length_cons, List.length_nil, if_true]
  simp [List.range, List.range.loop, lits3 _ _ b0, lits3 _ _ b1, lits3 _ _ b2, lits3 _ _ b3, lits3 _ _ b4]

theorem place_key {t h0 h1 h2 h3 h4 : Nat} (b : t ≤ 1000) (b0 : h0 ≤ 1000) (b1 : h1 ≤ 1000) (b2 : h2 ≤ 1000) (b3 : h3 ≤ 1000) (b4 : h4 ≤ 1000) : ∃ l, keyOf Try.prog 133 (placeV t h0 h1 h2 h3 h4) = some l := by
  obtain ⟨ls, hl⟩ := lits130 158 b0 b1 b2 b3 b4
  have e : ∃ ls, Try.prog.keyLits (158 + 3) 133 [.int .i64 (t : Int), .int .i64 (h0 : Int), .int .i64 (h1 : Int), .int .i64 (h2 : Int), .int .i64 (h3 : Int), .int .i64 (h4 : Int)] = some ls := by
    unfold Program.keyLits
    rw [Try.underlying133]
    simp [Try.cells133, Try.cells130, Try.cells3, lits3 _ _ b, hl]
  obtain ⟨ls2, hl2⟩ := e
  refine ⟨.string (keyBytes ls2), ?_⟩
  unfold keyOf
  rw [Try.underlying133]
  have hf : (placeV t h0 h1 h2 h3 h4).formed Try.prog 133 = true := by
    simp [Value.formed, placeV, Try.underlying133, Try.cells133]
  simp only [Try.keyType133, hf, Bool.and_self, if_true, Try.size133]
  show (Try.prog.keyLits (158 + 3) 133 [.int .i64 (t : Int), .int .i64 (h0 : Int), .int .i64 (h1 : Int), .int .i64 (h2 : Int), .int .i64 (h3 : Int), .int .i64 (h4 : Int)]).map _ = _
  rw [hl2]
  rfl

/-- Block b is a map whose keys are places for which Dead holds. -/
def Tried (w : World) (b : Nat) (Dead : Nat → List Nat → Prop) : Prop :=
  ∃ es clock, w.heap[b]? = some (.map es clock) ∧ ∀ e ∈ es.toList, ∃ t h0 h1 h2 h3 h4, (t ≤ 1000 ∧ h0 ≤ 1000 ∧ h1 ≤ 1000 ∧ h2 ≤ 1000 ∧ h3 ≤ 1000 ∧ h4 ≤ 1000) ∧ e.key = placeV t h0 h1 h2 h3 h4 ∧ e.val = .bool true ∧ Dead t [h0, h1, h2, h3, h4]

theorem placeV_inj {t h0 h1 h2 h3 h4 t' h0' h1' h2' h3' h4' : Nat} (h : placeV t h0 h1 h2 h3 h4 = placeV t' h0' h1' h2' h3' h4') : t = t' ∧ [h0, h1, h2, h3, h4] = [h0', h1', h2', h3', h4'] := by
  simp [placeV] at h ⊢
  omega

theorem Try.zero4 (w : World) : (zeroValue 4).run Try.prog w = .ok (.bool false) w := by kernel_rfl
theorem Try.underlying127' : Try.prog.underlying 127 = some (.map 133 4) := Try.underlying127

theorem tried_keys {Dead : Nat → List Nat → Prop} {es : Array MapEntry} (he : ∀ e ∈ es.toList, ∃ t h0 h1 h2 h3 h4, (t ≤ 1000 ∧ h0 ≤ 1000 ∧ h1 ≤ 1000 ∧ h2 ≤ 1000 ∧ h3 ≤ 1000 ∧ h4 ≤ 1000) ∧ e.key = placeV t h0 h1 h2 h3 h4 ∧ e.val = .bool true ∧ Dead t [h0, h1, h2, h3, h4]) :
    ∀ e ∈ es.toList, ∃ l, keyOf Try.prog 133 e.key = some l := fun e hm => by
  obtain ⟨t, h0, h1, h2, h3, h4, ⟨c, c0, c1, c2, c3, c4⟩, hk, _⟩ := he e hm
  rw [hk]
  exact place_key c c0 c1 c2 c3 c4

theorem run_map_at {w : World} {b : Nat} {es : Array MapEntry} {clock : Nat} (hb : w.heap[b]? = some (.map es clock)) : (getObj b : Sem Obj).run Try.prog w = .ok (.map es clock) w := by
  simp [getObj, Sem.run, hb]

theorem run_map_set {w : World} {b : Nat} {es : Array MapEntry} {clock : Nat} (hb : w.heap[b]? = some (.map es clock)) (o : Obj) : (setObj b o : Sem Unit).run Try.prog w = .ok () (w.putObj b o) := by
  simp [setObj, Sem.run, hb, World.putObj]

theorem tried_look {w : World} {b : Nat} {Dead : Nat → List Nat → Prop} (h : Tried w b Dead) {t h0 h1 h2 h3 h4 : Nat} (c : t ≤ 1000) (c0 : h0 ≤ 1000) (c1 : h1 ≤ 1000) (c2 : h2 ≤ 1000) (c3 : h3 ≤ 1000) (c4 : h4 ≤ 1000) :
    ∃ r : Bool, (Instr.lookup 127 (.map (some b)) (placeV t h0 h1 h2 h3 h4) false).run Try.prog w = .ok (.bool r) w ∧ (r = true → Dead t [h0, h1, h2, h3, h4]) := by
  obtain ⟨es, clock, hb, he⟩ := h
  obtain ⟨l, hl⟩ := place_key c c0 c1 c2 c3 c4
  have hcheck := placeLaw.check w es.isEmpty hl
  rcases placeLaw.find w hl es.toList (tried_keys he) with ⟨hf, _⟩ | ⟨j, e, hf, hj, hk⟩
  · refine ⟨false, ?_, fun h => by cases h⟩
    simp [Instr.lookup, run_underlying Try.underlying127', hcheck, hf, run_map_at hb]
  · obtain ⟨t', h0', h1', h2', h3', h4', _, hk', hv, hd⟩ := he e (List.mem_of_getElem? hj)
    rw [hk'] at hk
    obtain ⟨e1, e2⟩ := placeV_inj hk
    refine ⟨true, ?_, fun _ => by rw [← e1, ← e2]; exact hd⟩
    simp [Instr.lookup, run_underlying Try.underlying127', hcheck, hf, hv, run_map_at hb]

theorem tried_store {w : World} {b : Nat} {Dead : Nat → List Nat → Prop} (h : Tried w b Dead) {t h0 h1 h2 h3 h4 : Nat} (c : t ≤ 1000) (c0 : h0 ≤ 1000) (c1 : h1 ≤ 1000) (c2 : h2 ≤ 1000) (c3 : h3 ≤ 1000) (c4 : h4 ≤ 1000) (hd : Dead t [h0, h1, h2, h3, h4]) :
    ∃ w', (Instr.mapUpdate 127 (.map (some b)) (placeV t h0 h1 h2 h3 h4) (.bool true)).run Try.prog w = .ok () w' ∧ Tried w' b Dead ∧ w.grownBy w' (some b) := by
  obtain ⟨es, clock, hb, he⟩ := h
  obtain ⟨l, hl⟩ := place_key c c0 c1 c2 c3 c4
  have hcheck := placeLaw.check w false hl
  have hlt := (Array.getElem?_eq_some_iff.1 hb).1
  rcases placeLaw.find w hl es.toList (tried_keys he) with ⟨hf, _⟩ | ⟨j, e, hf, hj, hk⟩
  · refine ⟨w.putObj b (.map (es.push { key := placeV t h0 h1 h2 h3 h4, val := .bool true, born := clock }) (clock + 1)), ?_, ⟨_, _, World.putObj_heap_same hlt, ?_⟩, grownBy_putObj' w b _⟩
    · simp [Instr.mapUpdate, run_underlying Try.underlying127', hcheck, hf, run_map_at hb, run_map_set hb]
    · intro e hm
      rw [Array.toList_push, List.mem_append] at hm
      rcases hm with hm | hm
      · exact he e hm
      · simp at hm
        subst hm
        exact ⟨t, h0, h1, h2, h3, h4, ⟨c, c0, c1, c2, c3, c4⟩, rfl, rfl, hd⟩
  · have hj' : es[j]? = some e := by simpa using hj
    have hstay := placeLaw.stays w hl
    refine ⟨w.putObj b (.map (es.modify j fun e => { e with key := placeV t h0 h1 h2 h3 h4, val := .bool true }) clock), ?_, ⟨_, _, World.putObj_heap_same hlt, ?_⟩, grownBy_putObj' w b _⟩
    · simp [Instr.mapUpdate, run_underlying Try.underlying127', hcheck, hf, hj', hk, hstay, run_map_at hb, run_map_set hb]
    · intro x hm
      rw [Array.mem_toList_iff] at hm
      obtain ⟨i, hi, rfl⟩ := Array.getElem_of_mem hm
      rw [Array.getElem_modify]
      split
      · exact ⟨t, h0, h1, h2, h3, h4, ⟨c, c0, c1, c2, c3, c4⟩, rfl, rfl, hd⟩
      · exact he _ (by simp)

end Go.Proofs.Ytgapbaelifcifaa
