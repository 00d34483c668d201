/- Mend: whether the sense of texts may become that of others; whether a request distorts. Mend: whether requests meet. Mend: the memory of a hearing while requests are decided. Mend: the requests are decided one after the other: the method decide. -/
import Derived.Test.YtbampfkmgjfofaaGreatDoorZ
import Derived.BigRegion
import Derived.Deep.RegionHeld3
import Derived.Deep.OwnRows
namespace Go.Proofs.YtbampfkmgjfofaaGreatDoor
open Go.RowKit

theorem senseM_length (E : List Ent) (L : List Tx) : (senseM E L).length ≤ L.length := List.length_filterMap_le _ _

theorem Marks.grownB {w w' : World} {a : Option Addr} {L : List (Int × Int)} (h : Marks w a L) (hb : Below w.heap.size w w') : Marks w' a L := h.grown hb

set_option maxRecDepth 100000 in
set_option maxHeartbeats 2000000 in
theorem keeps_any (E : List Ent) (b : Nat) (S : List (Int × Int × Int)) (sa : Option Addr) (sn sc : Nat) (P Q : List Tx) (n m nc mc : Nat) (pa qa : Option Addr) (w : World) (hm : MapIs w b E) (hE : noTwice E = true)
    (hs : S.length = sn) (hsn : sn ≤ maxLen) (hS : SwapsAt w sa S) (hP : P.length = n) (hn : n ≤ 100) (hPs : Strs w pa P) (hPt : ∀ t ∈ P, t.size ≤ 32) (hQ : Q.length = m) (hm100 : m ≤ 100) (hQs : Strs w qa Q) (hQt : ∀ t ∈ Q, t.size ≤ 32) (hstd : Std w) :
    Calls Tryz.prog 139 #[.agg #[.map (some b), .slice sa sn sc], .slice pa n nc, .slice qa m mc] w fun e w' => e = .returned (.bool (keepsM S (senseM E P) (senseM E Q))) ∧ Below w.heap.size w w' := by
  have HS := hid hs; have HP := hid hP; have HQ := hid hQ
  clear hs hP hQ
  have HPT := hid hPt; have HQT := hid hQt
  clear hPt hQt
  obtain ⟨W1, hW1⟩ : ∃ W1, W1 = w.alloc (.cells #[.map (some b), .slice sa sn sc] 116) := ⟨_, rfl⟩
  have hB1 : Below w.heap.size w W1 := by rw [hW1]; exact below_alloc w _
  have y0 : W1.cell? ⟨w.heap.size, 0, none⟩ = some (.map (some b)) := by rw [hW1]; simp [go_sem]
  have y1 : W1.cell? ⟨w.heap.size, 1, none⟩ = some (.slice sa sn sc) := by rw [hW1]; simp [go_sem]
  have HM := hid (hm.grown hB1)
  have HSW := hid (hS.grown hB1)
  have HPS := hid (hPs.grown hB1)
  have HQS := hid (hQs.grown hB1)
  have HST := hid (hstd.grown hB1)
  clear hm hS hPs hQs hstd
  have HB := hid hB1
  go_enter Tryz.func139, Tryz.ntmps139
  go_wp2_with fail
  rw [← hW1]
  clear hW1 hB1
  have hBd : Below W1.heap.size W1 W1.drew := (Below.refl _ _).drew
  go_region_held3 (fun w' : World => w'.cell? ⟨w.heap.size, 0, none⟩ = some (.map (some b)) ∧ w'.cell? ⟨w.heap.size, 1, none⟩ = some (.slice sa sn sc)) (exact ⟨y0, y1⟩)
    (first
      | (go_at_call_has 53 pa
         replace y0 := cell_grown hBd y0
         replace y1 := cell_grown hBd y1
         refine (sense_any E b sa sn sc P n nc pa _ (HM.out.grown hBd) hE HP.out hn (HPS.out.grown hBd) HPT.out (HST.out.grown hBd)).mono ?_
         rintro e w2 ⟨ra, rc, rfl, hown2, hb2⟩
         have hb12 := below_then hBd hb2
         have HB2 := hid (HB.out.trans (hb12.mono HB.out.size))
         have HM2 := hid (HM.out.grown hb12)
         have HSW2 := hid (HSW.out.grown hb12)
         have HQS2 := hid (HQS.out.grown hb12)
         have HST2 := hid (HST.out.grown hb12)
         have HA2 := hid (marks_of_owns hown2)
         replace y0 := cell_grown hb2 y0
         replace y1 := cell_grown hb2 y1
         clear hown2 hb12)
      | (go_at_call_has 53 qa
         refine (sense_any E b sa sn sc Q m mc qa _ HM2.out hE HQ.out hm100 HQS2.out HQT.out HST2.out).mono ?_
         rintro e w3 ⟨rb, rd, rfl, hown3, hb3⟩
         have HB3 := hid (HB2.out.trans (hb3.mono HB2.out.size))
         have HSW3 := hid (HSW2.out.grown hb3)
         have HA3 := hid (HA2.out.grown hb3)
         have HC3 := hid (marks_of_owns hown3)
         replace y0 := cell_grown hb3 y0
         replace y1 := cell_grown hb3 y1
         clear hown3)
      | (go_at_call 156
         refine (equal_any S (some b) sn sc sa (senseM E P) (senseM E Q) _ _ rc rd ra rb _ HS.out hsn HSW3.out rfl (by have := senseM_length E P; have := HP.out; omega) HA3.out rfl (by have := senseM_length E Q; have := HQ.out; omega) HC3.out).mono ?_
         rintro e w4 ⟨rfl, hb4⟩
         have HB4 := hid (HB3.out.trans (hb4.mono HB3.out.size))
         replace y0 := cell_grown hb4 y0
         replace y1 := cell_grown hb4 y1))
  go_wp2
  all_goals
    go_ret
    exact ⟨rfl, HB4.out⟩

theorem strs_of_ownsN {W : World} {base : Nat} {e : TypeId} {a : Option Addr} {n cap : Nat} {L : List Tx} (h : W.ownsRow base e 1 (.slice a n cap) n (flatV strC L)) (hL : L.length = n) : Strs W a L := by
  subst hL
  exact strs_of_owns h

/-- Does the request change the sense by more than is allowed? -/
def distortsM (E : List Ent) (S : List (Int × Int × Int)) (R : List (Tx × Int)) (P : List Tx) (l k : Nat) : Bool := !keepsM S (senseM E (textsM R l k)) (senseM E P)

theorem textsM_mem {R : List (Tx × Int)} {l k : Nat} {t : Tx} (h : t ∈ textsM R l k) : ∃ n ∈ R, n.1 = t := by
  unfold textsM at h
  obtain ⟨n, hn, rfl⟩ := List.mem_map.1 h
  exact ⟨n, List.mem_of_mem_drop (List.mem_of_mem_take hn), rfl⟩

set_option maxRecDepth 100000 in
set_option maxHeartbeats 4000000 in
theorem distorts_any (hb : Nat) (wa : Option Addr) (wn wc : Nat) (R : List (Tx × Int)) (x : Ask) (l k : Nat) (E : List Ent) (b : Nat) (S : List (Int × Int × Int)) (sa : Option Addr) (sn sc : Nat) (P : List Tx) (w : World)
    (h0 : w.cell? ⟨hb, 0, none⟩ = some (.slice wa wn wc)) (h3 : w.cell? ⟨hb, 3, none⟩ = some (.map (some b))) (h4 : w.cell? ⟨hb, 4, none⟩ = some (.slice sa sn sc))
    (hR : R.length = wn) (hw : wn ≤ 80) (hcap : wn ≤ wc) (hRS : Nums w wa R) (hRt : ∀ n ∈ R, n.1.size ≤ 32) (hl : x.f = l) (hk : x.c = k) (hlk : l + k ≤ wn)
    (hm : MapIs w b E) (hE : noTwice E = true) (hs : S.length = sn) (hsn : sn ≤ maxLen) (hS : SwapsAt w sa S) (hP : x.pn = P.length) (hPn : P.length ≤ 100) (hPs : Strs w x.pa P) (hPt : ∀ t ∈ P, t.size ≤ 32) (hstd : Std w) :
    Calls Tryz.prog 116 #[.pointer (some ⟨hb, 0, none⟩), askV x] w fun e w' => e = .returned (.bool (distortsM E S R P l k)) ∧ Below w.heap.size w w' := by
  obtain ⟨z, hz⟩ : ∃ z, distortsM E S R P l k = z := ⟨_, rfl⟩
  rw [hz]
  have HZ := hid hz
  clear hz
  obtain ⟨W1, hW1⟩ : ∃ W, W = w.alloc (askO x) := ⟨_, rfl⟩
  have hB1 : Below w.heap.size w W1 := by rw [hW1]; exact below_alloc w _
  have hA : AskAt W1 w.heap.size x := by rw [hW1]; exact AskAt.new w x
  have g0 := cell_grown hB1 h0
  have g3 := cell_grown hB1 h3
  have g4 := cell_grown hB1 h4
  have HM := hid (hm.grown hB1)
  have HSW := hid (hS.grown hB1)
  have HPS := hid (hPs.grown hB1)
  have HRS := hid (hRS.grown hB1)
  have HST := hid (hstd.grown hB1)
  clear hm hS hPs hRS hstd h0 h3 h4
  obtain ⟨xb, xm, xf, xc, pa, pn, pc, xi⟩ := x
  simp only at hl hk hP HPS
  subst hl hk
  have HS := hid hs; have HP := hid hP; have HR := hid hR
  clear hs hP hR
  have HPT := hid hPt; have HRT := hid hRt
  clear hPt hRt
  have y0 := hA.c0; have y1 := hA.c1; have y2 := hA.c2; have y3 := hA.c3; have y4 := hA.c4; have y5 := hA.c5
  clear hA
  have HB := hid hB1
  unfold askO at hW1
  unfold askV
  simp only at *
  go_enter Tryz.func116, Tryz.ntmps116
  go_wp2_with fail
  rw [← hW1]
  clear hW1 hB1
  have hBd : Below W1.heap.size W1 W1.drew := (Below.refl _ _).drew
  go_region_held3 (fun w' : World => w'.cell? ⟨hb, 0, none⟩ = some (.slice wa wn wc) ∧ w'.cell? ⟨hb, 3, none⟩ = some (.map (some b)) ∧ w'.cell? ⟨hb, 4, none⟩ = some (.slice sa sn sc) ∧
      w'.cell? ⟨w.heap.size, 0, none⟩ = some (.int .i64 xb) ∧ w'.cell? ⟨w.heap.size, 1, none⟩ = some (.int .i64 xm) ∧ w'.cell? ⟨w.heap.size, 2, none⟩ = some (.int .i64 (l : Int)) ∧ w'.cell? ⟨w.heap.size, 3, none⟩ = some (.int .i64 (k : Int)) ∧ w'.cell? ⟨w.heap.size, 4, none⟩ = some (.slice pa pn pc) ∧ w'.cell? ⟨w.heap.size, 5, none⟩ = some (.int .i64 (xi : Int)))
    (exact ⟨g0, g3, g4, y0, y1, y2, y3, y4, y5⟩)
    (first
      | (go_at_call 91
         replace g0 := cell_grown hBd g0; replace g3 := cell_grown hBd g3; replace g4 := cell_grown hBd g4
         replace y0 := cell_grown hBd y0; replace y1 := cell_grown hBd y1; replace y2 := cell_grown hBd y2; replace y3 := cell_grown hBd y3; replace y4 := cell_grown hBd y4; replace y5 := cell_grown hBd y5
         refine (end_any ⟨xb, xm, l, k, pa, pn, pc, xi⟩ _ (by show I64 ((l : Int) + (k : Int)); unfold I64; omega)).mono ?_
         rintro e w2 ⟨rfl, hb2⟩
         have HB2 := hid (below_then hBd hb2)
         replace g0 := cell_grown hb2 g0; replace g3 := cell_grown hb2 g3; replace g4 := cell_grown hb2 g4
         replace y0 := cell_grown hb2 y0; replace y1 := cell_grown hb2 y1; replace y2 := cell_grown hb2 y2; replace y3 := cell_grown hb2 y3; replace y4 := cell_grown hb2 y4; replace y5 := cell_grown hb2 y5)
      | (go_at_call 84
         refine (texts_any hb wa wn wc R l k _ g0 HR.out hw hcap (HRS.out.grown HB2.out) hlk).mono ?_
         rintro e w3 ⟨ra, rc, rfl, hown3, hb3⟩
         have HB3 := hid (below_then HB2.out hb3)
         have HA3 := hid hown3
         replace g0 := cell_grown hb3 g0; replace g3 := cell_grown hb3 g3; replace g4 := cell_grown hb3 g4
         replace y0 := cell_grown hb3 y0; replace y1 := cell_grown hb3 y1; replace y2 := cell_grown hb3 y2; replace y3 := cell_grown hb3 y3; replace y4 := cell_grown hb3 y4; replace y5 := cell_grown hb3 y5
         clear hown3)
      | (go_at_call 139
         refine (keeps_any E b S sa sn sc (textsM R l k) P k pn rc pc ra pa _ (HM.out.grown HB3.out) hE HS.out hsn (HSW.out.grown HB3.out) (textsM_length HR.out hlk) (by omega)
           (strs_of_ownsN HA3.out (textsM_length HR.out hlk))
           (fun t ht => by obtain ⟨n, hn, rfl⟩ := textsM_mem ht; exact HRT.out n hn) HP.out.symm (by have := HP.out; omega) (HPS.out.grown HB3.out) HPT.out (HST.out.grown HB3.out)).mono ?_
         rintro e w4 ⟨rfl, hb4⟩
         have HB4 := hid (HB.out.trans ((below_then HB3.out hb4).mono HB.out.size))
         replace g0 := cell_grown hb4 g0; replace g3 := cell_grown hb4 g3; replace g4 := cell_grown hb4 g4
         replace y0 := cell_grown hb4 y0; replace y1 := cell_grown hb4 y1; replace y2 := cell_grown hb4 y2; replace y3 := cell_grown hb4 y3; replace y4 := cell_grown hb4 y4; replace y5 := cell_grown hb4 y5))
  go_wp2
  all_goals
    go_ret
    exact ⟨by rw [← HZ.out]; rfl, HB4.out⟩

end Go.Proofs.YtbampfkmgjfofaaGreatDoor

namespace Go.Proofs.YtbampfkmgjfofaaGreatDoor
open Go.RowKit

/-- Do both requests meet? -/
def meetA (x y : Ask) : Bool := (decide (x.f < y.f + y.c) && decide (y.f < x.f + x.c)) || (decide (x.f = y.f) && decide (x.c = y.c))

set_option maxRecDepth 100000 in
set_option maxHeartbeats 4000000 in
theorem meet_any (x y : Ask) (w : World) (hx : I64 (x.f + x.c)) (hy : I64 (y.f + y.c)) :
    Calls Tryz.prog 142 #[askV x, askV y] w fun e w' => e = .returned (.bool (meetA x y)) ∧ Below w.heap.size w w' := by
  obtain ⟨z, hz⟩ : ∃ z, meetA x y = z := ⟨_, rfl⟩
  rw [hz]
  have HZ := hid hz
  clear hz
  obtain ⟨W1, hW1⟩ : ∃ W, W = (w.alloc (askO x)).alloc (askO y) := ⟨_, rfl⟩
  have hB1 : Below w.heap.size w W1 := by rw [hW1]; exact ((Below.refl _ w).alloc (Nat.le_refl _) _).alloc (by simp) _
  have hA1 : AskAt W1 w.heap.size x := by rw [hW1]; exact (AskAt.new w x).grown (below_alloc _ _)
  have hA2 : AskAt W1 (w.heap.size + 1) y := by rw [hW1]; have h := AskAt.new (w.alloc (askO x)) y; rwa [World.size_alloc] at h
  have hend1 : ∀ W, Calls Tryz.prog 91 #[.agg #[.int .i64 x.b, .int .i64 x.m, .int .i64 x.f, .int .i64 x.c, .slice x.pa x.pn x.pc, .int .i64 (x.i : Int)]] W fun e w' => e = .returned (.int .i64 (x.f + x.c)) ∧ Below W.heap.size W w' := fun W => end_any x W hx
  have hend2 : ∀ W, Calls Tryz.prog 91 #[.agg #[.int .i64 y.b, .int .i64 y.m, .int .i64 y.f, .int .i64 y.c, .slice y.pa y.pn y.pc, .int .i64 (y.i : Int)]] W fun e w' => e = .returned (.int .i64 (y.f + y.c)) ∧ Below W.heap.size W w' := fun W => end_any y W hy
  clear hx hy
  obtain ⟨xb, xm, xf, xc, pa, pn, pc, xi⟩ := x
  obtain ⟨yb, ym, yf, yc, qa, qn, qc, yi⟩ := y
  obtain ⟨xe, hxe⟩ : ∃ e, e = xf + xc := ⟨_, rfl⟩
  obtain ⟨ye, hye⟩ : ∃ e, e = yf + yc := ⟨_, rfl⟩
  have HZ2 : Hid (((decide (xf < ye) && decide (yf < xe)) || (decide (xf = yf) && decide (xc = yc))) = z) := hid (by rw [hxe, hye]; exact HZ.out)
  simp only [← hxe, ← hye] at hend1 hend2
  clear hxe hye HZ
  have k0 : ∀ p : Over W1, p.w.cell? ⟨w.heap.size, 0, none⟩ = some (.int .i64 xb) := fun p => p.cell hA1.c0
  have k1 : ∀ p : Over W1, p.w.cell? ⟨w.heap.size, 1, none⟩ = some (.int .i64 xm) := fun p => p.cell hA1.c1
  have k2 : ∀ p : Over W1, p.w.cell? ⟨w.heap.size, 2, none⟩ = some (.int .i64 xf) := fun p => p.cell hA1.c2
  have k3 : ∀ p : Over W1, p.w.cell? ⟨w.heap.size, 3, none⟩ = some (.int .i64 xc) := fun p => p.cell hA1.c3
  have k4 : ∀ p : Over W1, p.w.cell? ⟨w.heap.size, 4, none⟩ = some (.slice pa pn pc) := fun p => p.cell hA1.c4
  have k5 : ∀ p : Over W1, p.w.cell? ⟨w.heap.size, 5, none⟩ = some (.int .i64 (xi : Int)) := fun p => p.cell hA1.c5
  have j0 : ∀ p : Over W1, p.w.cell? ⟨w.heap.size + 1, 0, none⟩ = some (.int .i64 yb) := fun p => p.cell hA2.c0
  have j1 : ∀ p : Over W1, p.w.cell? ⟨w.heap.size + 1, 1, none⟩ = some (.int .i64 ym) := fun p => p.cell hA2.c1
  have j2 : ∀ p : Over W1, p.w.cell? ⟨w.heap.size + 1, 2, none⟩ = some (.int .i64 yf) := fun p => p.cell hA2.c2
  have j3 : ∀ p : Over W1, p.w.cell? ⟨w.heap.size + 1, 3, none⟩ = some (.int .i64 yc) := fun p => p.cell hA2.c3
  have j4 : ∀ p : Over W1, p.w.cell? ⟨w.heap.size + 1, 4, none⟩ = some (.slice qa qn qc) := fun p => p.cell hA2.c4
  have j5 : ∀ p : Over W1, p.w.cell? ⟨w.heap.size + 1, 5, none⟩ = some (.int .i64 (yi : Int)) := fun p => p.cell hA2.c5
  clear hA1 hA2
  unfold askO at hW1
  unfold askV
  simp only at *
  go_enter Tryz.func142, Tryz.ntmps142
  go_wp2_with fail
  rw [← hW1]
  clear hW1
  by_cases h1 : xf < ye
  · have g1 : decide (xf < ye) = true := by simpa using h1
    by_cases h2 : yf < xe
    · have g2 : decide (yf < xe) = true := by simpa using h2
      have hzt : z = true := by rw [← HZ2.out, g1, g2]; rfl
      clear h1 h2
      refine wp_region_over W1 (Below.refl _ _) (by kernel_rfl) (by kernel_rfl) ?_
      repeat (go_big_quiet_step (first | (go_at_call_has 91 qa; exact Calls.over_of (hend2 _)) | (go_at_call_has 91 pa; exact Calls.over_of (hend1 _))))
      refine wpQuiet_nil ?_
      intro wz hw'
      have hbz := over_below hw'
      clear hw' k0 k1 k2 k3 k4 k5 j0 j1 j2 j3 j4 j5 hend1 hend2
      go_wp2
      go_ret
      exact ⟨by rw [hzt]; rfl, below_then hB1 hbz⟩
    · have g2 : decide (yf < xe) = false := by simpa using h2
      by_cases h3 : xf = yf
      · have e1 : (xf == yf) = true := by simpa using h3
        by_cases h4 : xc = yc
        · have e2 : (xc == yc) = true := by simpa using h4
          have hzt : z = true := by rw [← HZ2.out]; simp [h3, h4]
          clear h1 h2 h3 h4
          refine wp_region_over W1 (Below.refl _ _) (by kernel_rfl) (by kernel_rfl) ?_
          repeat (go_big_quiet_step (first | (go_at_call_has 91 qa; exact Calls.over_of (hend2 _)) | (go_at_call_has 91 pa; exact Calls.over_of (hend1 _))))
          refine wpQuiet_nil ?_
          intro wz hw'
          have hbz := over_below hw'
          clear hw' k0 k1 k2 k3 k4 k5 j0 j1 j2 j3 j4 j5 hend1 hend2
          go_wp2
          go_ret
          exact ⟨by rw [hzt]; rfl, below_then hB1 hbz⟩
        · have e2 : (xc == yc) = false := by simpa using h4
          have hzt : z = false := by rw [← HZ2.out, g1, g2]; simp [h4]
          clear h1 h2 h3 h4
          refine wp_region_over W1 (Below.refl _ _) (by kernel_rfl) (by kernel_rfl) ?_
          repeat (go_big_quiet_step (first | (go_at_call_has 91 qa; exact Calls.over_of (hend2 _)) | (go_at_call_has 91 pa; exact Calls.over_of (hend1 _))))
          refine wpQuiet_nil ?_
          intro wz hw'
          have hbz := over_below hw'
          clear hw' k0 k1 k2 k3 k4 k5 j0 j1 j2 j3 j4 j5 hend1 hend2
          go_wp2
          go_ret
          exact ⟨by rw [hzt]; rfl, below_then hB1 hbz⟩
      · have e1 : (xf == yf) = false := by simpa using h3
        have hzt : z = false := by rw [← HZ2.out, g1, g2]; simp [h3]
        clear h1 h2 h3
        refine wp_region_over W1 (Below.refl _ _) (by kernel_rfl) (by kernel_rfl) ?_
        repeat (go_big_quiet_step (first | (go_at_call_has 91 qa; exact Calls.over_of (hend2 _)) | (go_at_call_has 91 pa; exact Calls.over_of (hend1 _))))
        refine wpQuiet_nil ?_
        intro wz hw'
        have hbz := over_below hw'
        clear hw' k0 k1 k2 k3 k4 k5 j0 j1 j2 j3 j4 j5 hend1 hend2
        go_wp2
        go_ret
        exact ⟨by rw [hzt]; rfl, below_then hB1 hbz⟩
  · have g1 : decide (xf < ye) = false := by simpa using h1
    by_cases h3 : xf = yf
    · have e1 : (xf == yf) = true := by simpa using h3
      by_cases h4 : xc = yc
      · have e2 : (xc == yc) = true := by simpa using h4
        have hzt : z = true := by rw [← HZ2.out]; simp [h3, h4]
        clear h1 h3 h4
        refine wp_region_over W1 (Below.refl _ _) (by kernel_rfl) (by kernel_rfl) ?_
        repeat (go_big_quiet_step (first | (go_at_call_has 91 qa; exact Calls.over_of (hend2 _)) | (go_at_call_has 91 pa; exact Calls.over_of (hend1 _))))
        refine wpQuiet_nil ?_
        intro wz hw'
        have hbz := over_below hw'
        clear hw' k0 k1 k2 k3 k4 k5 j0 j1 j2 j3 j4 j5 hend1 hend2
        go_wp2
        go_ret
        exact ⟨by rw [hzt]; rfl, below_then hB1 hbz⟩
      · have e2 : (xc == yc) = false := by simpa using h4
        have hzt : z = false := by rw [← HZ2.out, g1]; simp [h4]
        clear h1 h3 h4
        refine wp_region_over W1 (Below.refl _ _) (by kernel_rfl) (by kernel_rfl) ?_
        repeat (go_big_quiet_step (first | (go_at_call_has 91 qa; exact Calls.over_of (hend2 _)) | (go_at_call_has 91 pa; exact Calls.over_of (hend1 _))))
        refine wpQuiet_nil ?_
        intro wz hw'
        have hbz := over_below hw'
        clear hw' k0 k1 k2 k3 k4 k5 j0 j1 j2 j3 j4 j5 hend1 hend2
        go_wp2
        go_ret
        exact ⟨by rw [hzt]; rfl, below_then hB1 hbz⟩
    · have e1 : (xf == yf) = false := by simpa using h3
      have hzt : z = false := by rw [← HZ2.out, g1]; simp [h3]
      clear h1 h3
      refine wp_region_over W1 (Below.refl _ _) (by kernel_rfl) (by kernel_rfl) ?_
      repeat (go_big_quiet_step (first | (go_at_call_has 91 qa; exact Calls.over_of (hend2 _)) | (go_at_call_has 91 pa; exact Calls.over_of (hend1 _))))
      refine wpQuiet_nil ?_
      intro wz hw'
      have hbz := over_below hw'
      clear hw' k0 k1 k2 k3 k4 k5 j0 j1 j2 j3 j4 j5 hend1 hend2
      go_wp2
      go_ret
      exact ⟨by rw [hzt]; rfl, below_then hB1 hbz⟩

set_option maxHeartbeats 1000000 in
theorem meetsF_any (x y : Ask) (kb : Nat) (w : World) (hx : I64 (x.f + x.c)) (hy : I64 (y.f + y.c)) (hA : AskAt w kb y) :
    Calls Tryz.prog 141 #[askV x, .pointer (some ⟨kb, 0, none⟩)] w fun e w' => e = .returned (.bool (meetA x y)) ∧ Below w.heap.size w w' := by
  have hcall := fun W => meet_any x y W hx hy
  generalize meetA x y = z at hcall ⊢
  have hB := below_alloc w (askO x)
  have hA2 := hA.grown hB
  have k0 := hA2.c0
  have k1 := hA2.c1
  have k2 := hA2.c2
  have k3 := hA2.c3
  have k4 := hA2.c4
  have k5 := hA2.c5
  have kl := hA2.lt
  clear hA hA2 hx hy
  unfold askO at *
  unfold askV at *
  go_enter Tryz.func141, Tryz.ntmps141
  go_wp2_with (go_at_call 142; refine (hcall _).mono ?_; rintro e w' ⟨rfl, hb⟩)
  go_ret
  exact ⟨rfl, below_then hB hb⟩

set_option maxRecDepth 100000 in
set_option maxHeartbeats 1000000 in
theorem indexAsk_any (q : Nat → Bool) (X : Nat → Ask) (g : Nat) (lb : Array Value) (eg : ∀ args w, (callFunc g args).run Tryz.prog w = .ok (.enter g args) w) (n cap : Nat) (a : Option Addr) (w : World) (hn : n ≤ maxLen)
    (hcell : ∀ i, i < n → ∃ b off, a = some ⟨b, off, none⟩ ∧ w.cell? ⟨b, off + i * 6, none⟩ = some (.int .i64 (X i).b) ∧ w.cell? ⟨b, off + i * 6 + 1, none⟩ = some (.int .i64 (X i).m) ∧ w.cell? ⟨b, off + i * 6 + 2, none⟩ = some (.int .i64 (X i).f) ∧
      w.cell? ⟨b, off + i * 6 + 3, none⟩ = some (.int .i64 (X i).c) ∧ w.cell? ⟨b, off + i * 6 + 4, none⟩ = some (.slice (X i).pa (X i).pn (X i).pc) ∧ w.cell? ⟨b, off + i * 6 + 5, none⟩ = some (.int .i64 ((X i).i : Int)))
    (hc : ∀ i, i < n → ∀ W, Below w.heap.size w W → Calls Tryz.prog g (#[askV (X i)] ++ lb) W fun e w' => e = .returned (.bool (q i)) ∧ Below w.heap.size w w') :
    Calls Tryz.prog 157 #[.slice a n cap, .func (.func g) #[] lb] w fun e w' => ∃ z : Int, e = .returned (.int .i64 z) ∧ Below w.heap.size w w' ∧ Hid (decide (0 ≤ z) = anyN n q) := by
  have hn' := hn
  unfold maxLen at hn'
  go_enter Tryz.func157, Tryz.ntmps157
  go_wp2
  go_loopg [5, 8] n (fun gg _ s8 wr => ∃ kk : Nat, kk ≤ n ∧ n - kk ≤ gg ∧ s8 = .int .i64 kk ∧ Aside (Below w.heap.size w wr) ∧ Aside (∀ j, j < kk → q j = false))
  case atStart => exact ⟨0, Nat.zero_le _, by omega, rfl, Below.refl _ w, fun j hj => absurd hj (Nat.not_lt_zero _)⟩
  case round =>
    obtain ⟨kk, hkk, hg, rfl, BW, A⟩ := hrel
    by_cases hlt : kk < n
    · have hltz : (kk : Int) < (n : Int) := by omega
      obtain ⟨b, off, ea, e0, e1, e2, e3, e4, e5⟩ := hcell kk hlt
      subst ea
      have gb0 := lt_of_cell e0
      replace e0 := cell_below BW.out gb0 e0
      replace e1 := cell_below BW.out gb0 e1
      replace e2 := cell_below BW.out gb0 e2
      replace e3 := cell_below BW.out gb0 e3
      replace e4 := cell_below BW.out gb0 e4
      replace e5 := cell_below BW.out gb0 e5
      have gb := lt_of_cell e0
      have hcall := hc kk hlt wr BW.out
      clear hc hcell gb0
      generalize X kk = x at *
      unfold askV at hcall
      generalize hqv : q kk = qx at hcall
      have HQ := hid hqv
      clear hqv
      cases qx with
      | true =>
        go_wp2_with (go_at_fn g; refine hcall.mono ?_; rintro e w' ⟨rfl, hb'⟩)
        go_ret
        exact ⟨kk, rfl, hb', hid (by rw [anyN_true hlt HQ.out]; simp)⟩
      | false =>
        go_wp2_with (go_at_fn g; refine hcall.mono ?_; rintro e w' ⟨rfl, hb'⟩)
        go_roundg (n - (kk + 1))
        case measure => omega
        case rel =>
          refine ⟨kk + 1, by omega, by omega, by go_num, hb', (show Aside _ from fun j hj => ?_)⟩
          by_cases e : j = kk
          · subst e
            exact HQ.out
          · exact A.out j (by omega)
    · have hltz : ¬ (kk : Int) < (n : Int) := by omega
      have hkn : kk = n := by omega
      subst hkn
      go_wp2
      go_ret
      exact ⟨-1, rfl, BW.out, hid (by rw [anyN_false A.out]; rfl)⟩

set_option maxHeartbeats 1000000 in
theorem containsAsk_any (V : List Ask) (y : Ask) (kb n cap : Nat) (a : Option Addr) (w : World) (hV : V.length = n) (hn : n ≤ maxLen) (hVs : AsksAt 0 w a V) (hx : ∀ x ∈ V, I64 (x.f + x.c)) (hy : I64 (y.f + y.c)) (hA : AskAt w kb y) :
    Calls Tryz.prog 140 #[.slice a n cap, .func (.func 141) #[] #[.pointer (some ⟨kb, 0, none⟩)]] w fun e w' => e = .returned (.bool (V.any fun x => meetA x y)) ∧ Below w.heap.size w w' := by
  have hmem : ∀ i, i < n → V.getD i default ∈ V := fun i hi => by
    rw [List.getD_eq_getElem?_getD, List.getElem?_eq_getElem (by omega), Option.getD_some]
    exact List.getElem_mem _
  have h := indexAsk_any (fun i => meetA (V.getD i default) y) (fun i => V.getD i default) 141 #[.pointer (some ⟨kb, 0, none⟩)] (enters_of Tryz.func141 (by kernel_rfl) rfl) n cap a w hn
    (fun i hi => by obtain ⟨g, off, -, ha, hr⟩ := hVs i (by omega); exact ⟨g, off, ha, hr⟩)
    (fun i hi W hW => (meetsF_any (V.getD i default) y kb W (hx _ (hmem i hi)) hy (hA.grown hW)).mono fun e w' h => ⟨h.1, below_then hW h.2⟩)
  rw [← hV, anyN_list V default (fun x => meetA x y), hV] at h
  clear hmem hVs hx hy hA hV
  generalize V.any (fun x => meetA x y) = r at h ⊢
  go_enter Tryz.func140, Tryz.ntmps140
  go_wp2_with (go_at_call 157; refine h.mono ?_; rintro e w' ⟨z, rfl, hb, hz⟩; refine Hid.out ?_)
  refine hid ?_
  have HZ := hid hz.out
  clear hz h
  go_wp2
  go_ret
  exact ⟨by rw [← HZ.out]; rfl, hb⟩

set_option maxHeartbeats 1000000 in
theorem meets_any (hb : Nat) (V : List Ask) (x : Ask) (n cap : Nat) (a : Option Addr) (w : World) (h5 : w.cell? ⟨hb, 5, none⟩ = some (.slice a n cap)) (hV : V.length = n) (hn : n ≤ maxLen) (hVs : AsksAt 0 w a V) (hx : ∀ x ∈ V, I64 (x.f + x.c)) (hy : I64 (x.f + x.c)) :
    Calls Tryz.prog 117 #[.pointer (some ⟨hb, 0, none⟩), askV x] w fun e w' => e = .returned (.bool (V.any fun y => meetA y x)) ∧ Below w.heap.size w w' := by
  obtain ⟨W1, hW1⟩ : ∃ W, W = w.alloc (askO x) := ⟨_, rfl⟩
  have hB : Below w.heap.size w W1 := by rw [hW1]; exact below_alloc w _
  have hA : AskAt W1 w.heap.size x := by rw [hW1]; exact AskAt.new w x
  have g5 := cell_grown hB h5
  have hV1 : AsksAt 0 W1 a V := fun i hi => by
    obtain ⟨g, off, h0, ha, e0, e1, e2, e3, e4, e5⟩ := hVs i hi
    exact ⟨g, off, h0, ha, cell_grown hB e0, cell_grown hB e1, cell_grown hB e2, cell_grown hB e3, cell_grown hB e4, cell_grown hB e5⟩
  have hcall := containsAsk_any V x w.heap.size n cap a W1 hV hn hV1 hx hy hA
  generalize V.any (fun y => meetA y x) = r at hcall ⊢
  clear hVs hV1 hx hy hV
  rw [hW1] at g5
  have l5 := lt_of_cell g5
  unfold askO at hW1 g5 l5
  unfold askV
  go_enter Tryz.func117, Tryz.ntmps117
  go_wp2_with fail
  rw [← hW1]
  clear hW1
  refine hcall.mono ?_
  rintro e w' ⟨rfl, hb'⟩
  go_wp2
  go_ret
  exact ⟨rfl, below_then hB hb'⟩

end Go.Proofs.YtbampfkmgjfofaaGreatDoor

namespace Go.Proofs.YtbampfkmgjfofaaGreatDoor
open Go.RowKit

/-- What does not change of a hearing. -/
structure Hc where
  wa : Option Addr
  wn : Nat
  wc : Nat
  out : Int
  win : Int
  mb : Nat
  sa : Option Addr
  sn : Nat
  sc : Nat
  ab : Nat
  n : Nat

/-- A hearing's cells. -/
def hearF (C : Hc) (va : Value) : Nat → Value
  | 0 => .slice C.wa C.wn C.wc
  | 1 => .int .i64 C.out
  | 2 => .int .i64 C.win
  | 3 => .map (some C.mb)
  | 4 => .slice C.sa C.sn C.sc
  | 5 => va
  | _ => .slice (some ⟨C.ab, 0, none⟩) C.n C.n

theorem hearF_set (C : Hc) (va v : Value) (i : Nat) (hi : i < 7) : (if i = 5 then v else hearF C va i) = hearF C v i := by
  match i, hi with
  | 0, _ => rfl
  | 1, _ => rfl
  | 2, _ => rfl
  | 3, _ => rfl
  | 4, _ => rfl
  | 5, _ => rfl
  | 6, _ => rfl

/-- The memory while requests are decided: but for the hearing and the answers all is as it was. -/
structure Dec (W1 : World) (hb : Nat) (C : Hc) (A : Nat → Int) (va : Value) (V : List Ask) (W : World) : Prop where
  os : W.os = W1.os
  tape : W.tape = W1.tape
  output : W.output = W1.output
  size : W1.heap.size ≤ W.heap.size
  keep : ∀ k, k < W1.heap.size → k ≠ hb → k ≠ C.ab → W.heap[k]? = W1.heap[k]?
  hear : W.rowIs hb 130 7 (hearF C va)
  row : W.rowIs C.ab 30 C.n (fun j => .int .i64 (A j))
  own : W.ownsRow W1.heap.size 162 6 va V.length (flatV askC V)

variable {W1 : World} {hb : Nat} {C : Hc} {A : Nat → Int} {va : Value} {V : List Ask} {W : World}

theorem Dec.over (h : Dec W1 hb C A va V W) {W' : World} (k : Below W.heap.size W W') : Dec W1 hb C A va V W' :=
  ⟨k.os.trans h.os, k.tape.trans h.tape, k.output.trans h.output, Nat.le_trans h.size k.size, fun j hj h1 h2 => (k.block j (by have := h.size; omega)).trans (h.keep j hj h1 h2),
    h.hear.of_block (k.block _ h.hear.lt), h.row.of_block (k.block _ h.row.lt), owns_below k h.own⟩

theorem Dec.answer (h : Dec W1 hb C A va V W) (hne : hb ≠ C.ab) (hlt : C.ab < W1.heap.size) (i : Nat) (e : Int) : Dec W1 hb C (fun j => if j = i then e else A j) va V (W.setCell ⟨C.ab, i, none⟩ (.int .i64 e)) :=
  ⟨h.os, h.tape, h.output, by have := h.size; simpa using this, fun j hj h1 h2 => (RowKit.Below.heap_setCell _ _ _ _ h2).trans (h.keep j hj h1 h2),
    h.hear.setOther (a := ⟨C.ab, i, none⟩) hne _, (h.row.set i (.int .i64 e)).congr (fun j _ => by split <;> rfl), ownsRow_setCell_below h.own (by exact hlt) _⟩

theorem Dec.below (h : Dec W1 hb C A va V W) {w : World} {B : Nat} (hB : Below B w W1) (h1 : B ≤ hb) (h2 : B ≤ C.ab) (h3 : B ≤ W1.heap.size) : Below B w W :=
  ⟨h.os.trans hB.os, h.tape.trans hB.tape, h.output.trans hB.output, Nat.le_trans hB.size h.size, fun k hk => (h.keep k (by omega) (by omega) (by omega)).trans (hB.block k hk)⟩

theorem Dec.cell (h : Dec W1 hb C A va V W) {b o : Nat} {v : Value} (h1 : b ≠ hb) (h2 : b ≠ C.ab) (hc : W1.cell? ⟨b, o, none⟩ = some v) : W.cell? ⟨b, o, none⟩ = some v :=
  (World.cell?_of_block (w := W1) (h.keep b (lt_of_cell hc) h1 h2)).trans hc

/-- Behind the append of a request, and its store into the hearing. -/
theorem Dec.accept (h : Dec W1 hb C A va V W) (hne : hb ≠ C.ab) (hl : hb < W1.heap.size) (hla : C.ab < W1.heap.size) {X : World} {v' : Value} {x : Ask} {o : Obj} (hX : (W.alloc o).grownBy X va.ownBlock) (ho : X.ownsRow W1.heap.size 162 6 v' (V ++ [x]).length (flatV askC (V ++ [x]))) :
    Dec W1 hb C A v' (V ++ [x]) (X.setCell ⟨hb, 5, none⟩ v') := by
  have hB : Below W1.heap.size W X := below_of_grown (Below.refl _ _) h.own hX h.size
  have hbk : ∀ k, k < W1.heap.size → X.heap[k]? = W.heap[k]? := fun k hk => hB.block k hk
  exact ⟨hB.os.trans h.os, hB.tape.trans h.tape, hB.output.trans h.output, by have := h.size; have := hB.size; simp; omega,
    fun j hj h1 h2 => (RowKit.Below.heap_setCell _ _ _ _ h1).trans ((hbk j hj).trans (h.keep j hj h1 h2)),
    ((h.hear.of_block (hbk _ hl)).set 5 v').congr (fun i hi => (hearF_set C va v' i hi)),
    (h.row.of_block (hbk _ hla)).setOther (a := ⟨hb, 5, none⟩) (Ne.symm hne) _, ownsRow_setCell_below ho (by exact hl) _⟩

end Go.Proofs.YtbampfkmgjfofaaGreatDoor

namespace Go.Proofs.YtbampfkmgjfofaaGreatDoor
open Go.RowKit

/-- The error of each question, in their order. -/
def codeN (k : Nat) : Int := [2, 1, 5, 11, 9, 6].getD k 0

/-- What is answered to a request, when some others are accepted. -/
def verdictA (alone : Ask → Int) (V : List Ask) (x : Ask) : Int := if alone x = 0 then (if V.any (fun y => meetA y x) then 6 else 0) else alone x

/-- One request more. -/
def stepA (alone : Ask → Int) (st : (Nat → Int) × List Ask) (x : Ask) : (Nat → Int) × List Ask :=
  if verdictA alone st.2 x = 0 then (st.1, st.2 ++ [x]) else (fun j => if j = x.i then verdictA alone st.2 x else st.1 j, st.2)

def runA (alone : Ask → Int) (T : List Ask) : (Nat → Int) × List Ask := T.foldl (stepA alone) (fun _ => 0, [])

theorem runA_take {alone : Ask → Int} {T : List Ask} {k : Nat} (hk : k < T.length) : runA alone (T.take (k + 1)) = stepA alone (runA alone (T.take k)) (T.getD k default) := by
  unfold runA
  rw [List.take_add_one, List.foldl_append, List.getElem?_eq_getElem hk, List.getD_eq_getElem?_getD, List.getElem?_eq_getElem hk]
  rfl

/-- The questions of a request, one by one, and what they say together. -/
structure Asked (W0 : World) (hb : Nat) (C : Hc) (alone : Ask → Int) (x : Ask) (z : Nat → Bool) : Prop where
  yes : ∀ k, k < 5 → (∀ j, j < k → z j = false) → z k = true → alone x = codeN k
  no : (∀ j, j < 5 → z j = false) → alone x = 0 ∧ I64 (x.f + x.c)
  call : ∀ k, k < 5 → (∀ j, j < k → z j = false) → ∀ W1 A va V W, Below W0.heap.size W0 W1 → Dec W1 hb C A va V W →
    Calls Tryz.prog (112 + k) #[.pointer (some ⟨hb, 0, none⟩), askV x] W fun e w' => e = .returned (.bool (z k)) ∧ Below W.heap.size W w'

/-- The questions' array. -/
def questF (hb : Nat) : Array Value :=
  #[.func (.func 112) #[.pointer (some ⟨hb, 0, none⟩)] #[], .int .i64 2, .func (.func 113) #[.pointer (some ⟨hb, 0, none⟩)] #[], .int .i64 1, .func (.func 114) #[.pointer (some ⟨hb, 0, none⟩)] #[], .int .i64 5,
    .func (.func 115) #[.pointer (some ⟨hb, 0, none⟩)] #[], .int .i64 11, .func (.func 116) #[.pointer (some ⟨hb, 0, none⟩)] #[], .int .i64 9, .func (.func 117) #[.pointer (some ⟨hb, 0, none⟩)] #[], .int .i64 6]

theorem quest_cells (w : World) (hb : Nat) (t : TypeId) (k : Nat) (hk : k < 6) : (w.alloc (.cells (questF hb) t)).cell? ⟨w.heap.size, k * 2, none⟩ = some (.func (.func (112 + k)) #[.pointer (some ⟨hb, 0, none⟩)] #[]) ∧
    (w.alloc (.cells (questF hb) t)).cell? ⟨w.heap.size, k * 2 + 1, none⟩ = some (.int .i64 (codeN k)) := by
  unfold questF
  rcases (by omega : k = 0 ∨ k = 1 ∨ k = 2 ∨ k = 3 ∨ k = 4 ∨ k = 5) with rfl | rfl | rfl | rfl | rfl | rfl <;> exact ⟨by simp [go_sem], by simp [go_sem, codeN]⟩

theorem quest_enters (k : Nat) (hk : k < 6) : ∀ args w, (callFunc (112 + k) args).run Tryz.prog w = .ok (.enter (112 + k) args) w := by
  rcases (by omega : k = 0 ∨ k = 1 ∨ k = 2 ∨ k = 3 ∨ k = 4 ∨ k = 5) with rfl | rfl | rfl | rfl | rfl | rfl
  · exact enters_of Tryz.func112 (by kernel_rfl) rfl
  · exact enters_of Tryz.func113 (by kernel_rfl) rfl
  · exact enters_of Tryz.func114 (by kernel_rfl) rfl
  · exact enters_of Tryz.func115 (by kernel_rfl) rfl
  · exact enters_of Tryz.func116 (by kernel_rfl) rfl
  · exact enters_of Tryz.func117 (by kernel_rfl) rfl

theorem AsksAt.ofDec {W1 : World} {hb base : Nat} {C : Hc} {A : Nat → Int} {va : Value} {V : List Ask} {W : World} {a : Option Addr} {T : List Ask} (h : AsksAt base W1 a T) (hd : Dec W1 hb C A va V W) (h1 : hb < base) (h2 : C.ab < base) : AsksAt base W a T := fun i hi =>
  let ⟨g, off, hg, ha, e0, e1, e2, e3, e4, e5⟩ := h i hi
  have n1 : g ≠ hb := by omega
  have n2 : g ≠ C.ab := by omega
  ⟨g, off, hg, ha, hd.cell n1 n2 e0, hd.cell n1 n2 e1, hd.cell n1 n2 e2, hd.cell n1 n2 e3, hd.cell n1 n2 e4, hd.cell n1 n2 e5⟩

theorem AsksAt.grown {base : Nat} {w w' : World} {a : Option Addr} {T : List Ask} (h : AsksAt base w a T) (hb : Below w.heap.size w w') : AsksAt base w' a T := fun i hi =>
  let ⟨g, off, hg, ha, e0, e1, e2, e3, e4, e5⟩ := h i hi
  ⟨g, off, hg, ha, cell_grown hb e0, cell_grown hb e1, cell_grown hb e2, cell_grown hb e3, cell_grown hb e4, cell_grown hb e5⟩

theorem asks_of_owns {w : World} {base n cap : Nat} {a : Option Addr} {L : List Ask} (h : w.ownsRow base 162 6 (.slice a n cap) n (flatV askC L)) (hL : L.length = n) : AsksAt 0 w a L := by
  subst hL
  intro i hi
  obtain ⟨b, -, ha, hc⟩ := owns_each (f := askC) askC_length h default i hi
  exact ⟨b, 0, Nat.zero_le _, ha, by rw [Nat.zero_add]; exact hc 0 _ (by decide) rfl, by rw [Nat.zero_add]; exact hc 1 _ (by decide) rfl, by rw [Nat.zero_add]; exact hc 2 _ (by decide) rfl,
    by rw [Nat.zero_add]; exact hc 3 _ (by decide) rfl, by rw [Nat.zero_add]; exact hc 4 _ (by decide) rfl, by rw [Nat.zero_add]; exact hc 5 _ (by decide) rfl⟩

/-- All six questions. -/
def allZ (z : Nat → Bool) (V : List Ask) (x : Ask) (k : Nat) : Bool := if k < 5 then z k else V.any fun y => meetA y x

theorem allZ_call {W0 W1 : World} {hb : Nat} {C : Hc} {alone : Ask → Int} {x : Ask} {z : Nat → Bool} (h : Asked W0 hb C alone x z) (hB : Below W0.heap.size W0 W1) {A : Nat → Int} {va : Value} {V : List Ask} (hV : V.length ≤ 20) (hVi : ∀ y ∈ V, I64 (y.f + y.c))
    {k : Nat} (hk : k < 6) (hz : ∀ j, j < k → allZ z V x j = false) {W : World} (hd : Dec W1 hb C A va V W) :
    Calls Tryz.prog (112 + k) #[.pointer (some ⟨hb, 0, none⟩), askV x] W fun e w' => e = .returned (.bool (allZ z V x k)) ∧ Below W.heap.size W w' := by
  by_cases h5 : k < 5
  · have e : allZ z V x k = z k := by unfold allZ; rw [if_pos h5]
    rw [e]
    exact h.call k h5 (fun j hj => by have := hz j hj; unfold allZ at this; rwa [if_pos (by omega)] at this) W1 A va V W hB hd
  · have hk5 : k = 5 := by omega
    subst hk5
    have e : allZ z V x 5 = V.any fun y => meetA y x := rfl
    rw [e]
    obtain ⟨a, cap, rfl⟩ := owns_shape hd.own
    have hc := (hd.hear.cell (i := 5) (by omega))
    exact meets_any hb V x V.length cap a W hc rfl (by unfold maxLen; omega) (asks_of_owns hd.own rfl) hVi (h.no (fun j hj => by have := hz j hj; unfold allZ at this; rwa [if_pos hj] at this)).2

theorem verdict_of {W0 : World} {hb : Nat} {C : Hc} {alone : Ask → Int} {x : Ask} {z : Nat → Bool} (h : Asked W0 hb C alone x z) {V : List Ask} {k : Nat} (hk : k < 6) (hz : ∀ j, j < k → allZ z V x j = false) (ht : allZ z V x k = true) : verdictA alone V x = codeN k ∧ codeN k ≠ 0 := by
  have hne : codeN k ≠ 0 := by rcases (by omega : k = 0 ∨ k = 1 ∨ k = 2 ∨ k = 3 ∨ k = 4 ∨ k = 5) with rfl | rfl | rfl | rfl | rfl | rfl <;> decide
  refine ⟨?_, hne⟩
  by_cases h5 : k < 5
  · have e : allZ z V x k = z k := by unfold allZ; rw [if_pos h5]
    have ha := h.yes k h5 (fun j hj => by have := hz j hj; unfold allZ at this; rwa [if_pos (by omega)] at this) (e ▸ ht)
    unfold verdictA
    rw [ha, if_neg hne]
  · have hk5 : k = 5 := by omega
    subst hk5
    have ha := (h.no (fun j hj => by have := hz j hj; unfold allZ at this; rwa [if_pos hj] at this)).1
    have e : (V.any fun y => meetA y x) = true := ht
    unfold verdictA
    rw [ha, if_pos rfl, e]
    rfl

theorem verdict_ok {W0 : World} {hb : Nat} {C : Hc} {alone : Ask → Int} {x : Ask} {z : Nat → Bool} (h : Asked W0 hb C alone x z) {V : List Ask} (hz : ∀ j, j < 6 → allZ z V x j = false) : verdictA alone V x = 0 ∧ I64 (x.f + x.c) := by
  have ha := h.no (fun j hj => by have := hz j (by omega); unfold allZ at this; rwa [if_pos hj] at this)
  have e : (V.any fun y => meetA y x) = false := hz 5 (by omega)
  refine ⟨?_, ha.2⟩
  unfold verdictA
  rw [ha.1, if_pos rfl, e]
  rfl

end Go.Proofs.YtbampfkmgjfofaaGreatDoor
