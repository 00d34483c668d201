/- Mend, the laws: requests in new memory: Requests. -/
import Derived.Test.YtbampfkmgjfofaaGreatDoorBP
import Derived.Test.YtbampfkmgjfofaaGreatDoorX
import Derived.Deep.RegionHeld3
namespace Go.Proofs.YtbampfkmgjfofaaGreatDoor
open Go.RowKit

theorem Tryz.info87 : (Tryz.prog.info? 87).map (fun i => (i.zero, i.size, i.bytes)) = some (some (.agg #[.int .i64 0, .int .i64 0, .int .i64 0, .int .i64 0, .slice none 0 0]), 5, 56) := by kernel_rfl

/-- The copies of requests so far: where the texts of each lie, apart from the row that holds them. -/
def ReqsOk (W : World) (B : Nat) (v : Value) (xs : List Value) (L : List Req) : Prop :=
  xs.length = L.length * 5 ∧ ∀ i, i < L.length → ∃ ai ci, xs[i * 5]? = some (.int .i64 (L.getD i default).b) ∧ xs[i * 5 + 1]? = some (.int .i64 (L.getD i default).m) ∧ xs[i * 5 + 2]? = some (.int .i64 (L.getD i default).f) ∧ xs[i * 5 + 3]? = some (.int .i64 (L.getD i default).c) ∧
    xs[i * 5 + 4]? = some (.slice ai (L.getD i default).put.length ci) ∧ Strs W ai (L.getD i default).put ∧ ∀ bb o m, ai = some ⟨bb, o, m⟩ → B ≤ bb ∧ bb < W.heap.size ∧ v.ownBlock ≠ some bb

theorem ReqsOk.moved {W W' : World} {B : Nat} {v v' : Value} {xs : List Value} {L : List Req} (h : ReqsOk W B v xs L)
    (hk : ∀ bb, B ≤ bb → bb < W.heap.size → v.ownBlock ≠ some bb → W'.heap[bb]? = W.heap[bb]? ∧ bb < W'.heap.size ∧ v'.ownBlock ≠ some bb) : ReqsOk W' B v' xs L := by
  refine ⟨h.1, fun i hi => ?_⟩
  obtain ⟨ai, ci, k0, k1, k2, k3, h1, h2, h3⟩ := h.2 i hi
  refine ⟨ai, ci, k0, k1, k2, k3, h1, fun j hj => ?_, fun bb o m e => ?_⟩
  · obtain ⟨b, off, ha, hc⟩ := h2 j hj
    obtain ⟨g1, g2, g3⟩ := h3 b off none ha
    exact ⟨b, off, ha, (World.cell?_of_block (w := W) (hk b g1 g2 g3).1).trans hc⟩
  · obtain ⟨g1, g2, g3⟩ := h3 bb o m e
    exact ⟨g1, (hk bb g1 g2 g3).2⟩

theorem ReqsOk.snoc {W : World} {B : Nat} {v : Value} {xs : List Value} {L : List Req} (h : ReqsOk W B v xs L) {q : Req} {ai : Option Addr} {ci : Nat} (hN : Strs W ai q.put)
    (ha : ∀ bb o m, ai = some ⟨bb, o, m⟩ → B ≤ bb ∧ bb < W.heap.size ∧ v.ownBlock ≠ some bb) : ReqsOk W B v (xs ++ [.int .i64 q.b, .int .i64 q.m, .int .i64 q.f, .int .i64 q.c, .slice ai q.put.length ci]) (L ++ [q]) := by
  have hl := h.1
  refine ⟨by rw [List.length_append, List.length_append, hl, Nat.add_mul]; rfl, fun i hi => ?_⟩
  rw [List.length_append, List.length_singleton] at hi
  by_cases e : i < L.length
  · obtain ⟨aj, cj, k0, k1, k2, k3, h1, h2, h3⟩ := h.2 i e
    have hg : (L ++ [q]).getD i default = L.getD i default := by simp [List.getD_eq_getElem?_getD, List.getElem?_append_left e]
    rw [hg]
    refine ⟨aj, cj, ?_, ?_, ?_, ?_, ?_, h2, h3⟩
    all_goals rw [List.getElem?_append_left (by rw [hl]; omega)]; assumption
  · have e' : i = L.length := by omega
    subst e'
    have hg : (L ++ [q]).getD L.length default = q := by simp [List.getD_eq_getElem?_getD]
    rw [hg]
    refine ⟨ai, ci, ?_, ?_, ?_, ?_, ?_, hN, ha⟩
    all_goals rw [List.getElem?_append_right (by rw [hl]; omega), hl]; simp

theorem reqs_of_ok {W : World} {B base n cap : Nat} {a : Option Addr} {xs : List Value} {L : List Req} (h : ReqsOk W B (.slice a n cap) xs L) (hown : W.ownsRow base 87 5 (.slice a n cap) n xs) (hL : L.length = n) (hN : ∀ q ∈ L, q.put.length ≤ 1000) : ReqsAt W a L := by
  intro i hi
  obtain ⟨ai, ci, k0, k1, k2, k3, h1, h2, -⟩ := h.2 i hi
  obtain ⟨b, -, ha, hc⟩ := owns_cells hown (by omega)
  refine ⟨b, 0, ai, ci, ha, by rw [Nat.zero_add]; exact hc _ _ k0, by rw [Nat.zero_add]; exact hc _ _ k1, by rw [Nat.zero_add]; exact hc _ _ k2, by rw [Nat.zero_add]; exact hc _ _ k3, by rw [Nat.zero_add]; exact hc _ _ h1, ?_, h2⟩
  have := hN (L.getD i default) (by rw [List.getD_eq_getElem?_getD, List.getElem?_eq_getElem hi, Option.getD_some]; exact List.getElem_mem _)
  unfold maxLen
  omega

/-- What Requests returns, with its memory. -/
def RequestsPost (L : List Req) (n : Nat) (w : World) (e : Ending) (w' : World) : Prop :=
  ∃ ra rc, e = .returned (.slice ra n rc) ∧ ReqsAt w' ra L ∧ Below w.heap.size w w'

set_option maxRecDepth 100000 in
set_option maxHeartbeats 4000000 in
theorem requests_any (L : List Req) (n cap : Nat) (a : Option Addr) (w : World) (hL : L.length = n) (hn : n ≤ 1000) (hS : ReqsAt w a L) (hN : ∀ q ∈ L, q.put.length ≤ 1000) : Calls Tryz.prog 34 #[.slice a n cap] w (RequestsPost L n w) := by
  have HL := hid hL
  clear hL
  obtain ⟨i9, hi, hz0, hz1, hz2⟩ := info_parts Tryz.info87
  go_enter Tryz.func34, Tryz.ntmps34
  go_wp2_with fail
  go_loopw [3, 4] (fun v i wr => ∃ (k : Nat) (xs : List Value), k ≤ n ∧ i = .int .i64 k ∧ wr.ownsRow w.heap.size 87 5 v k xs ∧ Below w.heap.size w wr ∧ Hid (ReqsOk wr w.heap.size v xs (L.take k))) (fun _ i _ => n - (intOf i).toNat)
  case atStart => exact ⟨0, [], Nat.zero_le _, rfl, World.ownsRow_nil _ _ _ _, Below.refl _ _, hid ⟨rfl, fun i hi => by simp at hi⟩⟩
  case round =>
    obtain ⟨k, xs, hk, rfl, hown, hB, HRQ⟩ := hrel
    have hz := hB.size
    by_cases hlt : k < n
    · have hlt' : (k : Int) < (n : Int) := by omega
      have hkl : k < L.length := by rw [HL.out]; exact hlt
      obtain ⟨b, off, ai, ci, rfl, e0, e1, e2, e3, e4, e5, e6⟩ := (hS.grown hB) k hkl
      have htk := take_next (L := L) (k := k) default hkl
      have hN1 := hN (L.getD k default) (by rw [List.getD_eq_getElem?_getD, List.getElem?_eq_getElem hkl, Option.getD_some]; exact List.getElem_mem _)
      generalize L.getD k default = q at e0 e1 e2 e3 e4 e5 e6 htk hN1
      obtain ⟨q1, q2, q3, q4, N⟩ := q
      have HTK := hid htk
      simp only at e0 e1 e2 e3 e4 e5 e6 hN1
      clear htk hlt
      obtain ⟨nl, hnl⟩ : ∃ n, N.length = n := ⟨_, rfl⟩
      rw [hnl] at e4 e5 hN1
      have HNL := hid hnl
      clear hnl e5
      have gb := lt_of_cell e0
      obtain ⟨W1, hW1⟩ : ∃ W, W = wr.alloc (.cells #[.int .i64 q1, .int .i64 q2, .int .i64 q3, .int .i64 q4, .slice ai nl ci] 99) := ⟨_, rfl⟩
      have hB1 : Below wr.heap.size wr W1 := by rw [hW1]; exact below_alloc wr _
      obtain ⟨qb, hqb⟩ : ∃ b, wr.heap.size = b := ⟨_, rfl⟩
      have y0 : W1.cell? ⟨qb, 0, none⟩ = some (.int .i64 q1) := by rw [hW1, ← hqb]; simp [go_sem]
      have y1 : W1.cell? ⟨qb, 1, none⟩ = some (.int .i64 q2) := by rw [hW1, ← hqb]; simp [go_sem]
      have y2 : W1.cell? ⟨qb, 2, none⟩ = some (.int .i64 q3) := by rw [hW1, ← hqb]; simp [go_sem]
      have y3 : W1.cell? ⟨qb, 3, none⟩ = some (.int .i64 q4) := by rw [hW1, ← hqb]; simp [go_sem]
      have y4 : W1.cell? ⟨qb, 4, none⟩ = some (.slice ai nl ci) := by rw [hW1, ← hqb]; simp [go_sem]
      have hzw : W1.heap.size = qb + 1 := by rw [hW1, ← hqb]; simp
      have hS1 := e6.grown hB1
      have hown1 := owns_below hB1 hown
      have HRQ1 : Hid (ReqsOk W1 w.heap.size _ xs (L.take k)) := hid (HRQ.out.moved (fun bb g1 g2 g3 => ⟨hB1.block bb g2, by have := hB1.size; omega, g3⟩))
      have HB1 := hid (hB.trans (hB1.mono hz))
      have HOWN := hid hown
      go_wp2_with fail
      rw [← hW1]
      have HQB := hid hqb
      have hqw : w.heap.size ≤ qb := by omega
      clear hW1 e0 e1 e2 e3 e4 e6 HRQ gb hB1 hqb hown
      have hBd : Below W1.heap.size W1 W1.drew := (Below.refl _ _).drew
      go_wp2_with fail
      have hno : ∀ (vv : Value) (n' : Nat), wr.ownsRow w.heap.size 87 5 vv n' xs → some qb ≠ vv.ownBlock := fun vv n' h e => by
        have h1 := (h.lt qb e.symm).2
        have h2 := HQB.out
        omega
      have HNO := hid (hno _ _ HOWN.out)
      clear hno
      go_region_held3 (fun w' : World => w'.cell? ⟨qb, 0, none⟩ = some (.int .i64 q1) ∧ w'.cell? ⟨qb, 1, none⟩ = some (.int .i64 q2) ∧ w'.cell? ⟨qb, 2, none⟩ = some (.int .i64 q3) ∧ w'.cell? ⟨qb, 3, none⟩ = some (.int .i64 q4) ∧ w'.cell? ⟨qb, 4, none⟩ = some (.slice ai nl ci)) (first | exact ⟨y0, y1, y2, y3, y4⟩ | exact ⟨cell_grown (Below.alloc (Below.refl _ _) (Nat.le_refl _) _) y0, cell_grown (Below.alloc (Below.refl _ _) (Nat.le_refl _) _) y1, cell_grown (Below.alloc (Below.refl _ _) (Nat.le_refl _) _) y2, cell_grown (Below.alloc (Below.refl _ _) (Nat.le_refl _) _) y3, cell_grown (Below.alloc (Below.refl _ _) (Nat.le_refl _) _) y4⟩) (first | (go_at_call 21; replace y0 := cell_grown hBd y0; replace y1 := cell_grown hBd y1; replace y2 := cell_grown hBd y2; replace y3 := cell_grown hBd y3; replace y4 := cell_grown hBd y4; refine (copy_any N nl ci ai _ HNL.out (by omega) (hS1.grown hBd)).mono ?_; rintro e w4 ⟨sa, sc, rfl, hO4, hS4, hb4⟩; have hb14 := hBd.trans (hb4.mono hBd.size); have hown4 := owns_below hb14 hown1; have hz4 := hb14.size; replace y0 := cell_grown hb4 y0; replace y1 := cell_grown hb4 y1; replace y2 := cell_grown hb4 y2; replace y3 := cell_grown hb4 y3; replace y4 := cell_grown hb4 y4) | (refine step_append_lies _ rfl _ _ 67 rfl w.heap.size 87 i9 (.agg #[.int .i64 0, .int .i64 0, .int .i64 0, .int .i64 0, .slice none 0 0]) 5 56 Tryz.underlying67 hi hz0 hz1 hz2 rfl (by decide) _ k _ rfl (hown4.alloc (.cells #[.int .i64 q1, .int .i64 q2, .int .i64 q3, .int .i64 q4, .slice sa nl sc] 87)) ⟨w4.heap.size, 0, none⟩ 1 1 [.int .i64 q1, .int .i64 q2, .int .i64 q3, .int .i64 q4, .slice sa nl sc] rfl rfl (cells_new w4 #[.int .i64 q1, .int .i64 q2, .int .i64 q3, .int .i64 q4, .slice sa nl sc] 87) (fun x hx => by simp at hx; rcases hx with rfl | rfl | rfl | rfl | rfl <;> rfl) (by omega) (by unfold maxLen; omega) (by omega) (by simp; omega) (w4.heap.size + 1) (by simp) ?_; intro g cp w5 hown' hgrow hat hlt'; have hq5 : w5.heap[qb]? = w4.heap[qb]? := (hgrow.block qb (by rw [World.size_alloc]; omega) (HNO.out)).trans (Below.heap_alloc _ _ _ (by omega)); replace y0 := (World.cell?_of_block (w := w4) hq5).trans y0; replace y1 := (World.cell?_of_block (w := w4) hq5).trans y1; replace y2 := (World.cell?_of_block (w := w4) hq5).trans y2; replace y3 := (World.cell?_of_block (w := w4) hq5).trans y3; replace y4 := (World.cell?_of_block (w := w4) hq5).trans y4; have HG := hid hgrow; have HAT := hid hat; have HO5 := hid hown'; clear hgrow hat hq5 hown'))
      have hb5 : Below w.heap.size w w5 := below_of_grown (HB1.out.trans (hb14.mono HB1.out.size)) hown4 HG.out (by have := HB1.out.size; omega)
      have hrq4 := (HRQ1.out.moved (W' := w4) (fun bb h1 h2 h3 => ⟨hb14.block bb h2, by omega, h3⟩)).snoc (q := ⟨q1, q2, q3, q4, N⟩) (ci := sc) hS4 (fun bb o m e => by
        have h1 := hO4.lt bb (by rw [e]; rfl)
        have h2 : W1.heap.size ≤ bb := h1.1
        have h5 := HB1.out.size
        refine ⟨by omega, h1.2, fun h3 => ?_⟩
        have h4 := (HOWN.out.lt bb h3).2
        have h6 := HQB.out
        omega)
      rw [← HTK.out] at hrq4
      have z5 : w4.heap.size ≤ w5.heap.size := by have := HG.out.size; rw [World.size_alloc] at this; omega
      have hrq5 : ReqsOk w5 w.heap.size (.slice (some ⟨g, 0, none⟩) (k + 1) cp) _ (L.take (k + 1)) := hrq4.moved (fun bb h1 h2 h3 => by
        refine ⟨?_, by omega, fun h4 => ?_⟩
        · rw [HG.out.block bb (by rw [World.size_alloc]; omega) (fun e => h3 e.symm), Below.heap_alloc _ _ _ h2]
        · have h5 : g = bb := by simpa [Value.ownBlock] using h4
          rcases HAT.out with h6 | h6
          · exact h3 (by rw [← h5]; exact h6)
          · omega)
      simp only [HNL.out] at hrq5
      have HR5 := hid hrq5
      clear hrq4 hrq5 hO4 hS4 hown4 hown1 hS1 hb4 hb14 hBd y0 y1 y2 y3 y4
      go_wp2
      go_roundw
      case rel => exact ⟨k + 1, _, by omega, by go_num, HO5.out, hb5, HR5⟩
      case measure => simp [intOf]; omega
    · have hkn : k = n := by omega
      subst hkn
      have hfull : L.take k = L := List.take_of_length_le (by rw [HL.out]; omega)
      have hRQ := HRQ.out
      rw [hfull] at hRQ
      obtain ⟨ra, rc, rfl⟩ := owns_shape hown
      have HO := hid (reqs_of_ok hRQ hown HL.out hN)
      clear hown hfull hlt hRQ HRQ
      go_wp2
      go_ret
      exact ⟨ra, rc, rfl, HO.out, hB⟩

end Go.Proofs.YtbampfkmgjfofaaGreatDoor
