/- Tongue: the best match of two texts, and its cost. -/
import Derived.Test.YtohahlnhbppnhaaN
namespace Go.Proofs.Ytohahlnhbppnhaa
open Go.RowKit
set_option linter.unusedSimpArgs false
set_option linter.unusedVariables false

/-- Steps, as they lie in memory. -/
def StepsAt (w : World) (a : Option Addr) (l : List (Nat × Nat)) : Prop :=
  ∀ i, i < l.length → ∃ b off, a = some ⟨b, off, none⟩ ∧ w.cell? ⟨b, off + i * 2, none⟩ = some (.int .i64 ((l.getD i (0, 0)).1 : Int)) ∧ w.cell? ⟨b, off + i * 2 + 1, none⟩ = some (.int .i64 ((l.getD i (0, 0)).2 : Int))

theorem StepsAt.grown {w w' : World} {a : Option Addr} {l : List (Nat × Nat)} (h : StepsAt w a l) (hb : Below w.heap.size w w') : StepsAt w' a l := fun i hi =>
  let ⟨b, off, ha, h1, h2⟩ := h i hi
  ⟨b, off, ha, cell_grown hb h1, cell_grown hb h2⟩

theorem steps_of_owns {W : World} {base : Nat} {e : TypeId} {a : Option Addr} {cap : Nat} {T : List (Nat × Nat)} (h : W.ownsRow base e 2 (.slice a T.length cap) T.length (flatS T)) : StepsAt W a T := by
  intro i hi
  rcases h.2 with ⟨_, h0⟩ | ⟨g, cap', cur, hv, _, hg, _⟩
  · omega
  · simp only [Value.slice.injEq] at hv
    obtain ⟨rfl, -, -⟩ := hv
    have hc := h.cells (g := g) rfl
    have hadd : ∀ j, (⟨g, 0, none⟩ : Addr).add j = ⟨g, 0 + j, none⟩ := fun j => by unfold Addr.add; split <;> simp_all
    obtain ⟨e1, e2⟩ := flatS_get T i hi
    have c1 := hc _ _ e1
    have c2 := hc _ _ e2
    rw [hadd] at c1 c2
    exact ⟨g, 0, rfl, c1, by rw [Nat.add_assoc]; exact c2⟩

def BestPost (L R : List Sen) (w : World) (e : Ending) (w' : World) : Prop :=
  ∃ a cap, e = .returned (.tuple #[.slice a (bestM L R 0 0).length cap, .int .i64 (restM L R 0 0)]) ∧ StepsAt w' a (bestM L R 0 0) ∧ Below w.heap.size w w'

set_option maxRecDepth 100000 in
set_option maxHeartbeats 4000000 in
theorem best_any (L R : List Sen) (nl cl nr cr b b0 b2 : Nat) (la ra : Option Addr) (w : World) (hL : L.length = nl) (hR : R.length = nr) (fL : FineT L) (fR : FineT R) (hcl : nl ≤ cl) (hcr : nr ≤ cr) (hS : TextAt w la L) (hT : TextAt w ra R) (hC : ChargesAt w b b0 b2) :
    Calls Try.prog 53 #[.agg #[.slice la nl cl, .int .u8 0, .int .i64 0, .slice ra nr cr, .int .u8 1, .int .i64 0, .slice (some ⟨b, 0, none⟩) 3 3]] w (BestPost L R w) := by
  have hnl : nl ≤ 1000 := by rw [← hL]; exact fL.1
  have hnr : nr ≤ 1000 := by rw [← hR]; exact fR.1
  have hBp := below_alloc w (.cells #[.slice la nl cl, .int .u8 0, .int .i64 0, .slice ra nr cr, .int .u8 1, .int .i64 0, .slice (some ⟨b, 0, none⟩) 3 3] 119)
  have p0 : (w.alloc (.cells #[.slice la nl cl, .int .u8 0, .int .i64 0, .slice ra nr cr, .int .u8 1, .int .i64 0, .slice (some ⟨b, 0, none⟩) 3 3] 119)).cell? ⟨w.heap.size, 0, none⟩ = some (.slice la nl cl) := by simp [go_sem]
  have p1 : (w.alloc (.cells #[.slice la nl cl, .int .u8 0, .int .i64 0, .slice ra nr cr, .int .u8 1, .int .i64 0, .slice (some ⟨b, 0, none⟩) 3 3] 119)).cell? ⟨w.heap.size, 1, none⟩ = some (.int .u8 0) := by simp [go_sem]
  have p2 : (w.alloc (.cells #[.slice la nl cl, .int .u8 0, .int .i64 0, .slice ra nr cr, .int .u8 1, .int .i64 0, .slice (some ⟨b, 0, none⟩) 3 3] 119)).cell? ⟨w.heap.size, 2, none⟩ = some (.int .i64 0) := by simp [go_sem]
  have p3 : (w.alloc (.cells #[.slice la nl cl, .int .u8 0, .int .i64 0, .slice ra nr cr, .int .u8 1, .int .i64 0, .slice (some ⟨b, 0, none⟩) 3 3] 119)).cell? ⟨w.heap.size, 3, none⟩ = some (.slice ra nr cr) := by simp [go_sem]
  have p4 : (w.alloc (.cells #[.slice la nl cl, .int .u8 0, .int .i64 0, .slice ra nr cr, .int .u8 1, .int .i64 0, .slice (some ⟨b, 0, none⟩) 3 3] 119)).cell? ⟨w.heap.size, 4, none⟩ = some (.int .u8 1) := by simp [go_sem]
  have p5 : (w.alloc (.cells #[.slice la nl cl, .int .u8 0, .int .i64 0, .slice ra nr cr, .int .u8 1, .int .i64 0, .slice (some ⟨b, 0, none⟩) 3 3] 119)).cell? ⟨w.heap.size, 5, none⟩ = some (.int .i64 0) := by simp [go_sem]
  have p6 : (w.alloc (.cells #[.slice la nl cl, .int .u8 0, .int .i64 0, .slice ra nr cr, .int .u8 1, .int .i64 0, .slice (some ⟨b, 0, none⟩) 3 3] 119)).cell? ⟨w.heap.size, 6, none⟩ = some (.slice (some ⟨b, 0, none⟩) 3 3) := by simp [go_sem]
  have hrests := rests_any L R nl cl nr cr b b0 b2 la ra (w.alloc (.cells #[.slice la nl cl, .int .u8 0, .int .i64 0, .slice ra nr cr, .int .u8 1, .int .i64 0, .slice (some ⟨b, 0, none⟩) 3 3] 119)) hL hR fL fR hcl hcr (hS.grown hBp) (hT.grown hBp) (hC.grown hBp)
  go_enter Try.func53, Try.ntmps53
  go_wp2_with (go_at_call 78; refine hrests.mono ?_; rintro e w1 ⟨mb, nt, rfl, htab, hmbl, hb1⟩; replace p0 := cell_grown hb1 p0; replace p1 := cell_grown hb1 p1; replace p2 := cell_grown hb1 p2; replace p3 := cell_grown hb1 p3; replace p4 := cell_grown hb1 p4; replace p5 := cell_grown hb1 p5; replace p6 := cell_grown hb1 p6; have hBw := hBp.trans (hb1.mono (by simp)); have gmb := htab.lt)
  obtain ⟨tb, htb⟩ : ∃ c, c = w1.heap.size := ⟨_, rfl⟩
  obtain ⟨W3, hW3⟩ : ∃ X, X = ((w1.alloc (.cells #[.map (some mb)] 146)).alloc (.cells #[.slice none 0 0] 27)).alloc (.cells #[.func (.func 79) #[] #[.pointer (some ⟨w.heap.size, 0, none⟩), .pointer (some ⟨tb, 0, none⟩), .pointer (some ⟨tb + 1, 0, none⟩), .pointer (some ⟨tb + 1 + 1, 0, none⟩)]] 148) := ⟨_, rfl⟩
  have hB3 : Below w1.heap.size w1 W3 := by rw [hW3]; exact (((Below.refl _ w1).alloc (Nat.le_refl _) _).alloc (by simp) _).alloc (by simp; omega) _
  have htm : W3.cell? ⟨tb, 0, none⟩ = some (.map (some mb)) := by rw [hW3, htb]; simp [go_sem]
  have hfc : W3.cell? ⟨tb + 1 + 1, 0, none⟩ = some (.func (.func 79) #[] #[.pointer (some ⟨w.heap.size, 0, none⟩), .pointer (some ⟨tb, 0, none⟩), .pointer (some ⟨tb + 1, 0, none⟩), .pointer (some ⟨tb + 1 + 1, 0, none⟩)]) := by rw [hW3, htb]; simp [go_sem]
  have hv : Boxed W3 (tb + 1) 27 (.slice none 0 0) := by
    rw [hW3, htb]
    have := Boxed.new (w1.alloc (.cells #[.map (some mb)] 146)) 27 (.slice none 0 0)
    rw [World.size_alloc] at this
    exact this.alloc _
  have s3 : W3.heap.size = tb + 3 := by rw [hW3, htb]; simp
  rw [← htb, ← hW3]
  clear hW3
  have HTB := hid htb
  have hmb : mb < tb + 1 := by omega
  have hpb : w.heap.size < tb + 1 := by have := lt_of_cell p0; omega
  have hwt : w.heap.size ≤ tb + 1 := by omega
  have hnfm : ¬ Mine (tb + 1) W3 (tb + 1 + 1) := fun h => by
    rcases (mine_iff hv _).1 h with e | e
    · omega
    · simp [Value.ownBlock] at e
  clear htb s3
  have hB0 := hBw.trans (hB3.mono hBw.size)
  have hcall := follow_any L R nl cl nr cr b b0 b2 w.heap.size tb (tb + 1) (tb + 1 + 1) mb nt la ra w hL hR fL fR hcl hcr hS hT hC hpb (by omega) hmb hwt ((nl - 0) + (nr - 0)) 0 0 [] (.slice none 0 0) W3 (Nat.le_refl _) (by omega) (by omega) (by simp; omega) hB0
    ⟨cell_grown hB3 p0, cell_grown hB3 p1, cell_grown hB3 p2, cell_grown hB3 p3, cell_grown hB3 p4, cell_grown hB3 p5, cell_grown hB3 p6⟩ htm (htab.kept (grown_none hB3) (by simp)) hfc hv (World.ownsRow_nil _ _ _ _) hnfm
  simp only [Int.natCast_zero, Int.ofNat_zero, Int.cast_ofNat_Int] at hcall
  refine hcall.mono ?_
  rintro e w4 ⟨⟨u, rfl⟩, ⟨v', hv4, hrow4⟩, hk4, ho4, hb4⟩
  clear hcall
  rw [List.nil_append] at hrow4
  obtain ⟨va, vc, rfl⟩ := owns_shape hrow4
  have hvc := hv4.cell
  have htm4 := hk4.cell (not_mine_old hv (World.ownsRow_nil W3 (tb + 1) 36 2) (by omega)) htm
  have htab4 : TableAt w4 mb nt (restM L R) (placesM nl nr) := by
    obtain ⟨D, h1, h2⟩ := htab.kept (grown_none hB3) (by simp)
    obtain ⟨es, ck, g1, g2⟩ := h1
    exact ⟨D, ⟨es, ck, (hb4.block mb hmb).trans g1, g2⟩, h2⟩
  have hlook : ∀ q, (Instr.lookup 146 (.map (some mb)) (.agg #[.int .i64 0, .int .i64 0]) false).run Try.prog (w4.drewN q) = .ok (.int .i64 (restM L R 0 0)) (w4.drewN q) := fun q => (show TableAt (w4.drewN q) mb nt (restM L R) (placesM nl nr) from htab4).look (a := 0) (b := 0) (mem_places (by omega) (by omega))
  have hst := steps_of_owns hrow4
  have hBF := hB0.trans (hb4.mono hwt)
  obtain ⟨bl, hbl⟩ : ∃ m, (bestM L R 0 0).length = m := ⟨_, rfl⟩
  obtain ⟨g, hg⟩ : ∃ g, restM L R 0 0 = g := ⟨_, rfl⟩
  rw [hbl] at hvc
  rw [hg] at hlook
  have HBL := hid hbl
  have HG := hid hg
  clear hrow4 hv4 hbl hg hk4 ho4 hb4 htab4
  have gtb := lt_of_cell htm4
  have gsb := lt_of_cell hvc
  go_wp2_with fail
  go_quiet (fail)
  go_wp2_with fail
  refine bodyPost_ret (v := .tuple #[.slice va bl vc, .int .i64 g]) (by simp [results, Try.f53, go_sem]) rfl ?_
  exact ⟨va, vc, by rw [HBL.out, HG.out], hst.grown ⟨rfl, rfl, rfl, Nat.le_refl _, fun _ _ => rfl⟩, below_drewN hBF _⟩

end Go.Proofs.Ytohahlnhbppnhaa
