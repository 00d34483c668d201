/- Mend, the laws: a report in new memory: Report. -/
import Derived.Test.YtbampfkmgjfofaaGreatDoorBP
namespace Go.Proofs.YtbampfkmgjfofaaGreatDoor
open Go.RowKit

theorem Tryz.info104 : (Tryz.prog.info? 104).map (fun i => (i.zero, i.size, i.bytes)) = some (some (.agg #[.string .empty, .int .i64 0]), 2, 24) := by kernel_rfl

theorem owns_room {W : World} {base : Nat} {e : TypeId} {k : Nat} {a : Option Addr} {n cap : Nat} {xs : List Value} (h : W.ownsRow base e k (.slice a n cap) n xs) : n ≤ cap := by
  rcases h.2 with ⟨e1, e2⟩ | ⟨g, cap', cur, hv, _, _, hnc, _⟩
  · simp only [Value.slice.injEq] at e1
    omega
  · simp only [Value.slice.injEq] at hv
    omega

/-- What Report returns, with its memory. -/
def ReportPost (R : List (Tx × Int)) (n : Nat) (out win : Int) (w : World) (e : Ending) (w' : World) : Prop :=
  ∃ b1 d1, e = .returned (.agg #[.slice b1 n d1, .int .i64 out, .int .i64 win]) ∧ n ≤ d1 ∧ Nums w' b1 R ∧ Below w.heap.size w w'

set_option maxRecDepth 100000 in
set_option maxHeartbeats 4000000 in
theorem report_any (R : List (Tx × Int)) (out win : Int) (n cap : Nat) (a : Option Addr) (w : World) (hR : R.length = n) (hn : n ≤ 1000) (hS : Nums w a R) :
    Calls Tryz.prog 32 #[.agg #[.slice a n cap, .int .i64 out, .int .i64 win]] w (ReportPost R n out win w) := by
  have HR := hid hR
  clear hR
  obtain ⟨i9, hi, hz0, hz1, hz2⟩ := info_parts Tryz.info104
  obtain ⟨W0, hW0⟩ : ∃ W, W = ((w.alloc (.cells #[.slice a n cap, .int .i64 out, .int .i64 win] 56)).alloc (.cells #[.slice none 0 0, .int .i64 0, .int .i64 0] 62)).alloc (.cells #[.slice none 0 0, .int .i64 out, .int .i64 win] 62) := ⟨_, rfl⟩
  have hB0 : Below w.heap.size w W0 := by rw [hW0]; exact (((Below.refl _ w).alloc (Nat.le_refl _) _).alloc (by simp) _).alloc (by simp; omega) _
  obtain ⟨ob, hob⟩ : ∃ b, w.heap.size + 2 = b := ⟨_, rfl⟩
  have z0 : W0.heap.size = ob + 1 := by rw [hW0]; simp; omega
  have r0 : W0.cell? ⟨w.heap.size, 0, none⟩ = some (.slice a n cap) := by rw [hW0]; simp [go_sem]
  have hres0 : W0.rowIs (w.heap.size + 1) 62 3 (row3 (.slice none 0 0) (.int .i64 0) (.int .i64 0)) := by
    rw [hW0]
    have h := World.rowIs_alloc (w.alloc (.cells #[.slice a n cap, .int .i64 out, .int .i64 win] 56)) #[.slice none 0 0, .int .i64 0, .int .i64 0] 62 (row3 (.slice none 0 0) (.int .i64 0) (.int .i64 0)) (fun i hi => by
      have hi' : i < 3 := hi
      rcases (by omega : i = 0 ∨ i = 1 ∨ i = 2) with rfl | rfl | rfl <;> rfl)
    rw [World.size_alloc] at h
    exact h.alloc _
  have hrow0 : W0.rowIs ob 62 3 (row3 (.slice none 0 0) (.int .i64 out) (.int .i64 win)) := by
    rw [hW0]
    have h := World.rowIs_alloc ((w.alloc (.cells #[.slice a n cap, .int .i64 out, .int .i64 win] 56)).alloc (.cells #[.slice none 0 0, .int .i64 0, .int .i64 0] 62)) #[.slice none 0 0, .int .i64 out, .int .i64 win] 62 (row3 (.slice none 0 0) (.int .i64 out) (.int .i64 win)) (fun i hi => by
      have hi' : i < 3 := hi
      rcases (by omega : i = 0 ∨ i = 1 ∨ i = 2) with rfl | rfl | rfl <;> rfl)
    rw [World.size_alloc, World.size_alloc, hob] at h
    exact h
  go_enter Tryz.func32, Tryz.ntmps32
  go_wp2_with fail
  rw [← hW0]
  clear hW0
  have HOB := hid hob
  clear hob
  go_loopw [4] (fun i wr => ∃ (k : Nat) (v1 : Value), k ≤ n ∧ i = .int .i64 k ∧ wr.rowIs ob 62 3 (row3 v1 (.int .i64 out) (.int .i64 win)) ∧ wr.ownsRow (ob + 1) 104 2 v1 k (flatV numC (R.take k)) ∧ Below ob W0 wr) (fun i _ => n - (intOf i).toNat)
  case atStart => exact ⟨0, _, Nat.zero_le _, rfl, hrow0, World.ownsRow_nil _ _ _ _, Below.refl _ _⟩
  clear hrow0
  case round =>
    obtain ⟨k, v1, hk, rfl, hrow, hown, hB⟩ := hrel
    have hz := hB.size
    have hob := HOB.out
    have q0 := cell_below hB (by omega) r0
    have ql := lt_of_cell q0
    have p0 := hrow.cell (i := 0) (by omega)
    have p1 := hrow.cell (i := 1) (by omega)
    have p2 := hrow.cell (i := 2) (by omega)
    have f0 := hrow.frozen 0
    have pl := hrow.lt
    simp only [row3] at p0 p1 p2
    have hBw1 : Below w.heap.size w wr := hB0.trans (hB.mono (by omega))
    clear hob
    by_cases hlt : k < n
    · have hkl : k < R.length := by rw [HR.out]; exact hlt
      obtain ⟨b, off, rfl, e0, e1⟩ := (hS.grown hBw1) k hkl
      have htk := take_next (L := R) (k := k) (.empty, 0) hkl
      generalize R.getD k (.empty, 0) = x at e0 e1 htk
      obtain ⟨x1, x2⟩ := x
      have HTK := hid htk
      simp only at e0 e1
      clear htk
      have gb := lt_of_cell e0
      have hstep : ∀ w3 : World, (wr.drew.alloc (.cells #[.string x1, .int .i64 x2] 104)).grownBy w3 v1.ownBlock → w3.rowIs ob 62 3 (row3 v1 (.int .i64 out) (.int .i64 win)) ∧ Below ob W0 w3 ∧ ob < w3.heap.size ∧ w3.cell? ⟨ob, 0, none⟩ = some v1 ∧ w3.frozen? ⟨ob, 0, none⟩ = false := by
        intro w3 hgrow
        have hb3 : Below (ob + 1) wr.drew w3 := below_of_grown (Below.refl _ _) hown hgrow (by show ob + 1 ≤ wr.heap.size; omega)
        have hr3 := hrow.of_block (w' := w3) (hb3.block ob (by omega))
        exact ⟨hr3, hB.trans (((Below.refl wr.heap.size wr).drew.mono (by omega)).trans (hb3.mono (by omega))), hr3.lt, hr3.cell (i := 0) (by omega), hr3.frozen 0⟩
      go_wp2_with fail
      go_region_law (refine step_append_lies _ rfl _ _ 60 rfl (ob + 1) 104 i9 (.agg #[.string .empty, .int .i64 0]) 2 24 Tryz.underlying60 hi hz0 hz1 hz2 rfl (by decide) _ k _ rfl (hown.alloc (.cells #[.string x1, .int .i64 x2] 104)) ⟨wr.heap.size, 0, none⟩ 1 1 [.string x1, .int .i64 x2] rfl rfl (cell_two_new _ _ _ _) (fun y hy => by simp at hy; rcases hy with rfl | rfl <;> rfl) (by omega) (by unfold maxLen; omega) (by omega) (by simp; omega) (wr.heap.size + 1) (by simp) ?_; intro g cp w3 hown' hgrow hat hlt'; obtain ⟨hr3, hb3, sl, s5, f5⟩ := hstep w3 hgrow; clear hgrow hat)
      all_goals
        go_wp2
        go_roundw
        case rel => exact ⟨k + 1, _, by omega, by go_num, row3_set0 hr3 _, by rw [HTK.out, flatV_snoc]; exact ownsRow_setCell_below hown' (by simp) _, hb3.setCell (p := ⟨ob, 0, none⟩) (by simp) _⟩
        case measure => simp [intOf]; omega
    · have hkn : k = n := by omega
      subst hkn
      have hfull : R.take k = R := List.take_of_length_le (by rw [HR.out]; omega)
      rw [hfull] at hown
      obtain ⟨u1, d1, rfl⟩ := owns_shape hown
      have hroom := owns_room hown
      have hNu : Nums wr u1 R := nums_of_ownsN hown HR.out
      have hub : ∀ b off, u1 = some ⟨b, off, none⟩ → ob < b ∧ b < wr.heap.size := fun b off e => by
        have := hown.lt b (by rw [e]; rfl)
        omega
      have hob := HOB.out
      obtain ⟨rb, hrb⟩ : ∃ b, b = w.heap.size + 1 := ⟨_, rfl⟩
      have hres5 : wr.rowIs rb 62 3 (row3 (.slice none 0 0) (.int .i64 0) (.int .i64 0)) := by rw [hrb]; exact hres0.of_block (hB.block _ (by omega))
      obtain ⟨W7, hW7⟩ : ∃ W, W = ((wr.setCell ⟨rb, 0, none⟩ (.slice u1 k d1)).setCell ⟨rb, 1, none⟩ (.int .i64 out)).setCell ⟨rb, 2, none⟩ (.int .i64 win) := ⟨_, rfl⟩
      have hmv : ∀ i, i ≠ rb → W7.heap[i]? = wr.heap[i]? := fun i hi => by
        rw [hW7, RowKit.Below.heap_setCell _ _ _ _ hi, RowKit.Below.heap_setCell _ _ _ _ hi, RowKit.Below.heap_setCell _ _ _ _ hi]
      have hB7 : Below w.heap.size w W7 := by
        rw [hW7]
        exact ((hBw1.setCell (p := ⟨rb, 0, none⟩) (by rw [hrb]; exact Nat.le_succ _) _).setCell (p := ⟨rb, 1, none⟩) (by rw [hrb]; exact Nat.le_succ _) _).setCell (p := ⟨rb, 2, none⟩) (by rw [hrb]; exact Nat.le_succ _) _
      have hrow7 : W7.rowIs rb 62 3 (row3 (.slice u1 k d1) (.int .i64 out) (.int .i64 win)) := by
        rw [hW7]
        exact (((hres5.set 0 _).set 1 _).set 2 _).congr (fun i hi => by rcases (by omega : i = 0 ∨ i = 1 ∨ i = 2) with rfl | rfl | rfl <;> rfl)
      have hNu7 : Nums W7 u1 R := fun i hi => by
        obtain ⟨b, off, ha, h1, h2⟩ := hNu i hi
        have hb := hub b off ha
        have hbl : ∀ o v, wr.cell? ⟨b, o, none⟩ = some v → W7.cell? ⟨b, o, none⟩ = some v := fun o v h => (World.cell?_of_block (w := wr) (hmv b (by omega))).trans h
        exact ⟨b, off, ha, hbl _ _ h1, hbl _ _ h2⟩
      have s0 := hres5.cell (i := 0) (by omega)
      have s1 := hres5.cell (i := 1) (by omega)
      have s2 := hres5.cell (i := 2) (by omega)
      have g0 := hres5.frozen 0
      have g1 := hres5.frozen 1
      have g2 := hres5.frozen 2
      simp only [row3] at s0 s1 s2
      rw [hrb] at s0 s1 s2 g0 g1 g2 hW7
      have HNU := hid hNu7
      have HB7 := hid hB7
      have HR7 := hid hrow7
      have HRO := hid hroom
      clear hNu7 hB7 hrow7 hroom hNu hub hmv hfull hown hres5 hob hB hrow
      go_wp2
      rw [← hW7]
      have y0 := HR7.out.cell (i := 0) (by omega)
      have y1 := HR7.out.cell (i := 1) (by omega)
      have y2 := HR7.out.cell (i := 2) (by omega)
      simp only [row3, hrb] at y0 y1 y2
      clear hW7 s0 s1 s2 g0 g1 g2 p0 p1 p2
      exact bodyPost_ret (v := .agg #[.slice u1 k d1, .int .i64 out, .int .i64 win]) (by simp [results, Tryz.f32, go_sem, y0, y1, y2]) rfl ⟨u1, d1, rfl, HRO.out, HNU.out, HB7.out⟩

end Go.Proofs.YtbampfkmgjfofaaGreatDoor
