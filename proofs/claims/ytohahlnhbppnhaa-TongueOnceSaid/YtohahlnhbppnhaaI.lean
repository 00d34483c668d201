/- Tongue: the iterator over all places: what it hands over. -/
import Derived.Test.YtohahlnhbppnhaaH
namespace Go.Proofs.Ytohahlnhbppnhaa
open Go.RowKit Go.Shelf
set_option linter.unusedSimpArgs false
set_option linter.unusedVariables false

attribute [local go_sem] Oper.semAt_some

/-- The places with so many left sentences, and so many right ones at most. -/
def rowM (a b : Nat) : List (Nat × Nat) := (List.range b).reverse.map fun k => (a, k)

/-- The places with less left sentences than so many. -/
def rowsM (nr : Nat) (a : Nat) : List (Nat × Nat) := (List.range a).reverse.flatMap fun i => rowM i (nr + 1)

/-- All places, the last one first. -/
def placesM (nl nr : Nat) : List (Nat × Nat) := rowsM nr (nl + 1)

theorem rowM_succ (a b : Nat) : rowM a (b + 1) = (a, b) :: rowM a b := by
  unfold rowM
  rw [List.range_succ, List.reverse_append]
  rfl

theorem rowsM_succ (nr a : Nat) : rowsM nr (a + 1) = rowM a (nr + 1) ++ rowsM nr a := by
  unfold rowsM
  rw [List.range_succ, List.reverse_append]
  rfl

theorem field150_0 (x y : Int) (w : World) : (Instr.field 150 (.agg #[.int .i64 x, .int .i64 y]) 0).run Try.prog w = .ok (.int .i64 x) w := by kernel_rfl
theorem field150_1 (x y : Int) (w : World) : (Instr.field 150 (.agg #[.int .i64 x, .int .i64 y]) 1).run Try.prog w = .ok (.int .i64 y) w := by kernel_rfl

def encPlace (x : Nat × Nat) : Array Value := #[.agg #[.int .i64 (x.1 : Int), .int .i64 (x.2 : Int)]]

variable {F : Fence} {n : Nat}

set_option maxRecDepth 100000 in
set_option maxHeartbeats 2000000 in
theorem places1_in (hF : ∀ f, F.fn f) (hro : F.round = none) (hd : F.depth = none) (hc : ∀ {m f args w R}, Calls Try.prog f args w R → CallsIn F m Try.prog f args w R) (hn : 1 ≤ n) (l bp nl cl nr cr cn cc : Nat) (la ra ca : Option Addr) (hnl : nl ≤ 1000) (hnr : nr ≤ 1000)
    (J Jx : List (Nat × Nat) → World → Prop) (M : World → Nat → Prop) (W : World) (hJ : OwnFrom W.heap.size J) (hM : MineOk W.heap.size J M) (hbp : ¬ M W bp)
    (hY : ∀ pre x rest W1, placesM nl nr = pre ++ x :: rest → J pre W1 → YieldAt F (n - 1) Try.prog l (encPlace x) W1 fun e W' =>
      (e = .returned (.bool true) ∧ J (pre ++ [x]) W' ∧ Keep M W1 W' ∧ KeepsFrom W.heap.size W1 W') ∨ (e = .returned (.bool false) ∧ Jx (pre ++ [x]) W' ∧ KeepsFrom W.heap.size W1 W' ∧ KeepC M W1 W'))
    (p0 : W.cell? ⟨bp, 0, none⟩ = some (.slice la nl cl))
    (p1 : W.cell? ⟨bp, 1, none⟩ = some (.int .u8 0))
    (p2 : W.cell? ⟨bp, 2, none⟩ = some (.int .i64 0))
    (p3 : W.cell? ⟨bp, 3, none⟩ = some (.slice ra nr cr))
    (p4 : W.cell? ⟨bp, 4, none⟩ = some (.int .u8 1))
    (p5 : W.cell? ⟨bp, 5, none⟩ = some (.int .i64 0))
    (p6 : W.cell? ⟨bp, 6, none⟩ = some (.slice ca cn cc))
    (h0 : J [] W) :
    CallsIn F n Try.prog 123 #[.func (.yield l) #[] #[], .pointer (some ⟨bp, 0, none⟩)] W fun e W' => (∃ v, e = .returned v) ∧
      (J (placesM nl nr) W' ∨ ∃ pre, pre <+: placesM nl nr ∧ Jx pre W') := by
  have hend : ∀ W, CallsIn F (n - 1) Try.prog 84 #[.agg #[.slice la nl cl, .int .u8 0, .int .i64 0, .slice ra nr cr, .int .u8 1, .int .i64 0, .slice ca cn cc]] W fun e w' => e = .returned (.agg #[.int .i64 (nl : Int), .int .i64 (nr : Int)]) ∧ Below W.heap.size W w' := fun W => hc (by
    have := pend_any 0 1 nl cl 0 nr cr 0 la ra ca cn cc W hnl hnr (by omega) (by omega)
    simpa only [Nat.zero_add, Int.natCast_zero, Int.ofNat_zero] using this)
  refine callsIn_of_wp Try.func123 rfl (hF _) ?_ hro
  simp only [Try.ntmps123, List.size_toArray, List.length_cons, List.length_nil, Nat.reduceAdd, Nat.reduceSub, Array.replicate_succ, Array.replicate_zero, List.push_toArray, List.append_toArray, List.nil_append, List.cons_append]
  have wp := lt_of_cell p0
  have hfd0 := field150_0 (nl : Int) (nr : Int)
  have hfd1 := field150_1 (nl : Int) (nr : Int)
  gi_wp2_with (gi_at_call 84; refine (hend _).mono ?_; rintro e w1 ⟨rfl, hb1⟩)
  have j1 : J [] w1 := OwnFrom.below hJ h0 hb1
  have k1 : Keep M W w1 := hM.below h0 hb1
  gi_loopw [3, 4] (fun c _ wr => ∃ (z : Int) (a : Nat) (pre : List (Nat × Nat)), z = (a : Int) - 1 ∧ a ≤ nl + 1 ∧ c = .int .i64 z ∧ Hid (placesM nl nr = pre ++ rowsM nr a) ∧ J pre wr ∧ Keep M W wr) (fun c _ _ => (intOf c + 1).toNat)
  case atStart => exact ⟨(nl : Int), nl + 1, [], by omega, by omega, rfl, hid rfl, j1, k1⟩
  case round =>
    obtain ⟨z, a, pre, hz, ha, rfl, HE, hj, hB⟩ := hrel
    by_cases h0a : a = 0
    · have hz0 : z < 0 := by omega
      subst h0a
      have hE : placesM nl nr = pre := by rw [HE.out]; simp [rowsM]
      gi_wp2_with fail
      go_end0
      exact ⟨⟨_, rfl⟩, .inl (by rw [hE]; exact hj)⟩
    · obtain ⟨i, rfl⟩ : ∃ i, a = i + 1 := ⟨a - 1, by omega⟩
      obtain rfl : z = (i : Int) := by omega
      have HE1 : Hid (placesM nl nr = pre ++ (rowM i (nr + 1) ++ rowsM nr i)) := hid (by rw [HE.out, rowsM_succ])
      clear HE hz h0a
      have r0 := hB.cell hbp p0
      have r1 := hB.cell hbp p1
      have r2 := hB.cell hbp p2
      have r3 := hB.cell hbp p3
      have r4 := hB.cell hbp p4
      have r5 := hB.cell hbp p5
      have r6 := hB.cell hbp p6
      have gp := lt_of_cell r0
      have hi0 : (0 : Int) ≤ (i : Int) := by omega
      gi_wp2_with (gi_at_call 84; refine (hend _).mono ?_; rintro e w2 ⟨rfl, hb2⟩)
      have j2 : J pre w2 := OwnFrom.below hJ hj hb2
      have k2 : Keep M W w2 := hB.trans (hM.below hj hb2)
      clear hb2
      obtain ⟨wo, hwo⟩ : ∃ X, X = wr := ⟨_, rfl⟩
      subst hwo
      gi_loopw [4] (fun c wr => ∃ (z : Int) (b : Nat) (pre : List (Nat × Nat)), z = (b : Int) - 1 ∧ b ≤ nr + 1 ∧ c = .int .i64 z ∧ Hid (placesM nl nr = pre ++ (rowM i b ++ rowsM nr i)) ∧ J pre wr ∧ Keep M W wr) (fun c _ => (intOf c + 1).toNat)
      case atStart => exact ⟨(nr : Int), nr + 1, pre, by omega, by omega, rfl, HE1, j2, k2⟩
      case round =>
        obtain ⟨z, b, pre2, hz, hb, rfl, HE, hj, hB⟩ := hrel
        by_cases h0b : b = 0
        · have hz0 : z < 0 := by omega
          subst h0b
          have HE3 : Hid (placesM nl nr = pre2 ++ rowsM nr i) := hid (by rw [HE.out]; simp [rowM])
          gi_wp2_with fail
          go_roundw
          case rel => exact ⟨(i : Int) - 1, i, pre2, rfl, by omega, by go_num, HE3, hj, hB⟩
          case measure => simp [intOf]
        · obtain ⟨k, rfl⟩ : ∃ k, b = k + 1 := ⟨b - 1, by omega⟩
          obtain rfl : z = (k : Int) := by omega
          have HE2 : Hid (placesM nl nr = pre2 ++ (i, k) :: (rowM i k ++ rowsM nr i)) := hid (by rw [HE.out, rowM_succ]; rfl)
          clear HE hz h0b
          have hk0 : (0 : Int) ≤ (k : Int) := by omega
          obtain ⟨fn, tmps, assign, body, hy, hR⟩ := hY pre2 (i, k) _ wr HE2.out hj
          dsimp only [encPlace] at hy
          gi_wp2
          refine hR.mono ?_
          clear hy hR
          rintro e W3 (⟨rfl, hJ3, hk3, _⟩ | ⟨rfl, hJx3, _, _⟩)
          · gi_wp2
            go_roundw
            case rel => exact ⟨(k : Int) - 1, k, pre2 ++ [(i, k)], rfl, by omega, rfl, hid (by rw [HE2.out]; simp), hJ3, hB.trans hk3⟩
            case measure => simp [intOf]
          · gi_wp2
            refine bodyPost_ret (results_none rfl _ _ _) rfl ?_
            exact ⟨⟨_, rfl⟩, .inr ⟨pre2 ++ [(i, k)], ⟨rowM i k ++ rowsM nr i, by rw [HE2.out]; simp⟩, hJx3⟩⟩

theorem places_seq (hF : ∀ f, F.fn f) (hro : F.round = none) (hd : F.depth = none) (hc : ∀ {m f args w R}, Calls Try.prog f args w R → CallsIn F m Try.prog f args w R) (hn : 1 ≤ n) (bp nl cl nr cr cn cc : Nat) (la ra ca : Option Addr) (hnl : nl ≤ 1000) (hnr : nr ≤ 1000) (w : World)
    (p0 : w.cell? ⟨bp, 0, none⟩ = some (.slice la nl cl))
    (p1 : w.cell? ⟨bp, 1, none⟩ = some (.int .u8 0))
    (p2 : w.cell? ⟨bp, 2, none⟩ = some (.int .i64 0))
    (p3 : w.cell? ⟨bp, 3, none⟩ = some (.slice ra nr cr))
    (p4 : w.cell? ⟨bp, 4, none⟩ = some (.int .u8 1))
    (p5 : w.cell? ⟨bp, 5, none⟩ = some (.int .i64 0))
    (p6 : w.cell? ⟨bp, 6, none⟩ = some (.slice ca cn cc)) :
    SeqO F n Try.prog 123 #[.pointer (some ⟨bp, 0, none⟩)] encPlace (fun b => b = bp) (placesM nl nr) w := fun l J Jx M W hW hJ _ hM hres hY h0 =>
  places1_in hF hro hd hc hn l bp nl cl nr cr cn cc la ra ca hnl hnr J Jx M W hJ hM (hres _ rfl) hY (cell_grown hW p0) (cell_grown hW p1) (cell_grown hW p2) (cell_grown hW p3) (cell_grown hW p4) (cell_grown hW p5) (cell_grown hW p6) h0

end Go.Proofs.Ytohahlnhbppnhaa
