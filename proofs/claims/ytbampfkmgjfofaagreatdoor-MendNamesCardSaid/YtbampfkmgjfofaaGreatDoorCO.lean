/- Mend, the laws: what is answered to a request alone, by the definition: ref.Alone. -/
import Derived.Test.YtbampfkmgjfofaaGreatDoorCM
import Derived.Test.YtbampfkmgjfofaaGreatDoorBW
import Derived.Test.YtbampfkmgjfofaaGreatDoorBO
import Derived.Test.YtbampfkmgjfofaaGreatDoorCH
import Derived.Deep.RegionHeld3
import Derived.IntWalk
import Derived.Deep.QuietTactic
import Derived.BigQuiet
namespace Go.Proofs.YtbampfkmgjfofaaGreatDoor
open Go.RowKit

/-- A request, as it is asked alone. -/
def askQ (q : Req) : Ask := ⟨q.b, q.m, q.f, q.c, none, 0, 0, 0⟩

/-- What is answered to a request alone. -/
def aloneQ (E : List Ent) (S : List (Int × Int × Int)) (R : List (Tx × Int)) (out win : Int) (q : Req) : Int := aloneM E S R out win [q] (askQ q)

theorem aloneQ_eq {E : List Ent} {S : List (Int × Int × Int)} {R : List (Tx × Int)} {out win : Int} {q : Req} : aloneQ E S R out win q =
    if missesM R.length (askQ q) then 2 else if malformedM q.put (askQ q) then 1 else if meddlesM R q.b q.f.toNat q.c.toNat then 5 else if lateM out win (askQ q) then 11 else if distortsM E S R q.put q.f.toNat q.c.toNat then 9 else 0 := rfl

theorem aloneQ_of {E : List Ent} {S : List (Int × Int × Int)} {R : List (Tx × Int)} {out win : Int} {L : List Req} {i : Nat} : aloneM E S R out win L (askI L i) = aloneQ E S R out win (L.getD i default) := rfl

theorem own_at {R : List (Tx × Int)} {b : Int} {t : Nat} (h : t < R.length) : ownZ R b t = decide (R[t].2 = b) := by
  unfold ownZ
  have : inB (t : Int) 0 ((R.length : Int) - 1) = true := by simp [inB]; omega
  rw [this, Bool.true_and, Int.toNat_natCast, List.getD_eq_getElem?_getD, List.getElem?_eq_getElem h]
  rfl

theorem own_out {R : List (Tx × Int)} {b k : Int} (h : k < 0 ∨ R.length ≤ k) : ownZ R b k = false := by
  unfold ownZ
  have : inB k 0 ((R.length : Int) - 1) = false := by simp [inB]; omega
  rw [this, Bool.false_and]

theorem meddles_hit {R : List (Tx × Int)} {b : Int} {l k i : Nat} (hi : i < k) (hl : l + k ≤ R.length) (h : ownZ R b ((l : Int) + i) = false) : meddlesM R b l k = true := by
  unfold meddlesM
  rw [if_pos (by omega)]
  have e : ((l : Int) + i) = ((l + i : Nat) : Int) := by omega
  have hlt : l + i < R.length := by omega
  rw [e, own_at hlt, decide_eq_false_iff_not] at h
  have hm : R[l + i] ∈ (R.drop l).take k := by
    apply List.mem_of_getElem? (i := i)
    rw [List.getElem?_take_of_lt hi, List.getElem?_drop]
    exact List.getElem?_eq_getElem hlt
  have : ((R.drop l).take k).all (fun n => decide (n.2 = b)) = false := List.all_eq_false.2 ⟨_, hm, by simpa using h⟩
  rw [this]
  rfl

theorem meddles_not {R : List (Tx × Int)} {b : Int} {l k : Nat} (hk : 0 < k) (_hl : l + k ≤ R.length) (h : ∀ i, i < k → ownZ R b ((l : Int) + i) = true) : meddlesM R b l k = false := by
  unfold meddlesM
  rw [if_pos hk]
  have : ((R.drop l).take k).all (fun n => decide (n.2 = b)) = true := by
    rw [List.all_eq_true]
    intro n hn
    obtain ⟨t, ht⟩ := List.mem_iff_getElem?.1 hn
    have htl : t < k := by
      have h1 := (List.getElem?_eq_some_iff.1 ht).1
      rw [List.length_take] at h1
      omega
    rw [List.getElem?_take_of_lt htl, List.getElem?_drop] at ht
    obtain ⟨h1, h2⟩ := List.getElem?_eq_some_iff.1 ht
    have := h t htl
    rw [show ((l : Int) + t) = ((l + t : Nat) : Int) by omega, own_at h1, h2] at this
    exact this
  rw [this]
  rfl

theorem meddles_zero_hit {R : List (Tx × Int)} {b : Int} {l : Nat} (h1 : ownZ R b ((l : Int) - 1) = false) (h2 : ownZ R b l = false) : meddlesM R b l 0 = true := by
  unfold meddlesM
  rw [if_neg (by omega)]
  have : ((R.drop (l - 1)).take (min (l + 1) R.length - (l - 1))).any (fun n => decide (n.2 = b)) = false := by
    rw [List.any_eq_false]
    intro n hn
    obtain ⟨t, ht⟩ := List.mem_iff_getElem?.1 hn
    have htl : t < min (l + 1) R.length - (l - 1) := by
      have h1 := (List.getElem?_eq_some_iff.1 ht).1
      rw [List.length_take] at h1
      omega
    rw [List.getElem?_take_of_lt htl, List.getElem?_drop] at ht
    obtain ⟨h3, h4⟩ := List.getElem?_eq_some_iff.1 ht
    by_cases e : l - 1 + t = l
    · have h5 := own_at (b := b) h3
      rw [h4, show ((l - 1 + t : Nat) : Int) = (l : Int) by omega, h2] at h5
      rw [← h5]; simp
    · have h5 := own_at (b := b) h3
      rw [h4, show ((l - 1 + t : Nat) : Int) = (l : Int) - 1 by omega, h1] at h5
      rw [← h5]; simp
  rw [this]
  rfl

theorem meddles_zero_not {R : List (Tx × Int)} {b : Int} {l : Nat} (h : ownZ R b ((l : Int) - 1) = true ∨ ownZ R b l = true) : meddlesM R b l 0 = false := by
  unfold meddlesM
  rw [if_neg (by omega)]
  have key : ∀ t : Nat, t < R.length → l - 1 ≤ t → t < l + 1 → ownZ R b t = true → ((R.drop (l - 1)).take (min (l + 1) R.length - (l - 1))).any (fun n => decide (n.2 = b)) = true := by
    intro t ht h1 h2 h3
    rw [own_at ht] at h3
    rw [List.any_eq_true]
    refine ⟨R[t], ?_, h3⟩
    apply List.mem_of_getElem? (i := t - (l - 1))
    rw [List.getElem?_take_of_lt (by omega), List.getElem?_drop, show l - 1 + (t - (l - 1)) = t by omega]
    exact List.getElem?_eq_getElem ht
  have : ((R.drop (l - 1)).take (min (l + 1) R.length - (l - 1))).any (fun n => decide (n.2 = b)) = true := by
    rcases h with h | h
    · by_cases hl : 0 < l ∧ l - 1 < R.length
      · have e : ((l : Int) - 1) = ((l - 1 : Nat) : Int) := by omega
        rw [e] at h
        exact key _ hl.2 (by omega) (by omega) h
      · rw [own_out (by omega)] at h
        cases h
    · by_cases hl : l < R.length
      · exact key _ hl (by omega) (by omega) h
      · rw [own_out (by omega)] at h
        cases h
  rw [this]
  rfl

theorem alone_2 {E : List Ent} {S : List (Int × Int × Int)} {R : List (Tx × Int)} {out win : Int} {q : Req} (h : missesM R.length (askQ q) = true) : aloneQ E S R out win q = 2 := by rw [aloneQ_eq, if_pos h]
theorem alone_1 {E : List Ent} {S : List (Int × Int × Int)} {R : List (Tx × Int)} {out win : Int} {q : Req} (h0 : missesM R.length (askQ q) = false) (h : malformedM q.put (askQ q) = true) : aloneQ E S R out win q = 1 := by rw [aloneQ_eq, if_neg (by rw [h0]; decide), if_pos h]
theorem alone_5 {E : List Ent} {S : List (Int × Int × Int)} {R : List (Tx × Int)} {out win : Int} {q : Req} (h0 : missesM R.length (askQ q) = false) (h1 : malformedM q.put (askQ q) = false) (h : meddlesM R q.b q.f.toNat q.c.toNat = true) : aloneQ E S R out win q = 5 := by
  rw [aloneQ_eq, if_neg (by rw [h0]; decide), if_neg (by rw [h1]; decide), if_pos h]
theorem alone_11 {E : List Ent} {S : List (Int × Int × Int)} {R : List (Tx × Int)} {out win : Int} {q : Req} (h0 : missesM R.length (askQ q) = false) (h1 : malformedM q.put (askQ q) = false) (h2 : meddlesM R q.b q.f.toNat q.c.toNat = false) (h : lateM out win (askQ q) = true) : aloneQ E S R out win q = 11 := by
  rw [aloneQ_eq, if_neg (by rw [h0]; decide), if_neg (by rw [h1]; decide), if_neg (by rw [h2]; decide), if_pos h]
theorem alone_9 {E : List Ent} {S : List (Int × Int × Int)} {R : List (Tx × Int)} {out win : Int} {q : Req} (h0 : missesM R.length (askQ q) = false) (h1 : malformedM q.put (askQ q) = false) (h2 : meddlesM R q.b q.f.toNat q.c.toNat = false) (h3 : lateM out win (askQ q) = false) :
    aloneQ E S R out win q = if keepsM S (senseM E (textsM R q.f.toNat q.c.toNat)) (senseM E q.put) then 0 else 9 := by
  rw [aloneQ_eq, if_neg (by rw [h0]; decide), if_neg (by rw [h1]; decide), if_neg (by rw [h2]; decide), if_neg (by rw [h3]; decide)]
  unfold distortsM
  cases keepsM S (senseM E (textsM R q.f.toNat q.c.toNat)) (senseM E q.put) <;> rfl

theorem misses_yes {R : List (Tx × Int)} {wn : Nat} (hR : R.length = wn) {q : Req} (h : q.f < 0 ∨ q.c < 0 ∨ (wn : Int) - q.c < q.f) : missesM R.length (askQ q) = true := by
  rw [hR]
  unfold missesM inB askQ
  simp only [Bool.or_eq_true, Bool.not_eq_true', decide_eq_true_eq, decide_eq_false_iff_not]
  omega
theorem misses_no {R : List (Tx × Int)} {wn : Nat} (hR : R.length = wn) {q : Req} (h1 : ¬ q.f < 0) (h2 : ¬ q.c < 0) (h3 : ¬ (wn : Int) - q.c < q.f) : missesM R.length (askQ q) = false := by
  rw [hR]
  unfold missesM inB askQ
  simp only [Bool.or_eq_false_iff, Bool.not_eq_false', decide_eq_true_eq, decide_eq_false_iff_not]
  omega
theorem late_yes {out win : Int} {q : Req} (h : q.m < out ∨ out + win < q.m) : lateM out win (askQ q) = true := by
  unfold lateM inB askQ
  simp only [Bool.not_eq_true', decide_eq_false_iff_not]
  omega
theorem late_no {out win : Int} {q : Req} (h1 : ¬ q.m < out) (h2 : ¬ out + win < q.m) : lateM out win (askQ q) = false := by
  unfold lateM inB askQ
  simp only [Bool.not_eq_false', decide_eq_true_eq]
  omega
theorem malformed_yes {q : Req} (h : 8 < q.c ∨ 8 < q.put.length ∨ q.put.all textOk = false ∨ (q.c = 0 ∧ q.put.length = 0) ∨ memberOk q.b = false) : malformedM q.put (askQ q) = true := by
  unfold malformedM askQ
  simp only [Bool.or_eq_true, Bool.and_eq_true, Bool.not_eq_true', decide_eq_true_eq]
  rcases h with h | h | h | h | h
  · exact .inl (.inl h)
  · exact .inl (.inr h)
  · exact .inr (.inl h)
  · exact .inr (.inr (.inl h))
  · exact .inr (.inr (.inr h))
theorem malformed_no {q : Req} (h1 : ¬ 8 < q.c) (h2 : ¬ 8 < q.put.length) (h3 : q.put.all textOk = true) (h4 : ¬ (q.c = 0 ∧ q.put.length = 0)) (h5 : memberOk q.b = true) : malformedM q.put (askQ q) = false := by
  unfold malformedM askQ
  simp only [Bool.or_eq_false_iff, Bool.and_eq_false_iff, Bool.not_eq_false', decide_eq_false_iff_not]
  refine ⟨by omega, h3, ?_, h5⟩
  by_cases e : q.c = 0
  · exact .inr fun h => h4 ⟨e, h⟩
  · exact .inl e

set_option maxRecDepth 100000 in
set_option maxHeartbeats 8000000 in
theorem refAlone_any (l : Lex) (a1 a2 a3 : Option Addr) (n1 n2 n3 c1 c2 c3 : Nat) (S : List (Int × Int × Int)) (sa : Option Addr) (sn sc : Nat) (R : List (Tx × Int)) (out win : Int) (wa : Option Addr) (wn wc : Nat) (q : Req) (pa : Option Addr) (pn pc : Nat) (w : World)
    (h1 : l.nums.length = n1) (h2 : l.names.length = n2) (h3 : l.nots.length = n3) (hLx : LexAt w a1 a2 a3 l) (hs : S.length = sn) (hsn : sn ≤ 1000) (hSw : SwapsAt w sa S) (hR : R.length = wn) (hwn : wn ≤ 1000) (hN : Nums w wa R) (hRs : ∀ x ∈ R, x.1.size ≤ 1000)
    (ho : 0 ≤ out ∧ out ≤ 100000) (hw : 0 ≤ win ∧ win ≤ 100000) (hp : q.put.length = pn) (hpn : pn ≤ 1000) (hP : Strs w pa q.put) (hps : ∀ t ∈ q.put, t.size ≤ 1000) (hc : I64 q.c) :
    Calls Tryz.prog 62 #[.agg #[.slice a1 n1 c1, .slice a2 n2 c2, .slice a3 n3 c3], .slice sa sn sc, .agg #[.slice wa wn wc, .int .i64 out, .int .i64 win], .agg #[.int .i64 q.b, .int .i64 q.m, .int .i64 q.f, .int .i64 q.c, .slice pa pn pc]] w
      fun e w' => e = .returned (.int .i64 (aloneQ (entries l) S R out win q)) ∧ Below w.heap.size w w' := by
  obtain ⟨z, hz⟩ : ∃ z, aloneQ (entries l) S R out win q = z := ⟨_, rfl⟩
  rw [hz]
  have H1 := hid h1; have H2 := hid h2; have H3 := hid h3; have HS := hid hs; have HR := hid hR; have HRS := hid hRs; have HP := hid hp; have HPS := hid hps
  clear h1 h2 h3 hs hR hRs hp hps
  obtain ⟨qb, qm, qf, qc, qp⟩ := q
  simp only at hc ⊢
  simp only at HP HPS hP
  have HZ := hid hz
  clear hz
  obtain ⟨W0, hW0⟩ : ∃ W, W = ((w.alloc (.cells #[.slice a1 n1 c1, .slice a2 n2 c2, .slice a3 n3 c3] 26)).alloc (.cells #[.slice wa wn wc, .int .i64 out, .int .i64 win] 56)).alloc (.cells #[.int .i64 qb, .int .i64 qm, .int .i64 qf, .int .i64 qc, .slice pa pn pc] 99) := ⟨_, rfl⟩
  have hB0 : Below w.heap.size w W0 := by rw [hW0]; exact (((Below.refl _ w).alloc (Nat.le_refl _) _).alloc (by simp) _).alloc (by simp; omega) _
  have x0 : W0.cell? ⟨w.heap.size, 0, none⟩ = some (.slice a1 n1 c1) := by rw [hW0]; simp [go_sem]
  have x1 : W0.cell? ⟨w.heap.size, 1, none⟩ = some (.slice a2 n2 c2) := by rw [hW0]; simp [go_sem]
  have x2 : W0.cell? ⟨w.heap.size, 2, none⟩ = some (.slice a3 n3 c3) := by rw [hW0]; simp [go_sem]
  have y0 : W0.cell? ⟨w.heap.size + 1, 0, none⟩ = some (.slice wa wn wc) := by rw [hW0]; simp [go_sem]
  have y1 : W0.cell? ⟨w.heap.size + 1, 1, none⟩ = some (.int .i64 out) := by rw [hW0]; simp [go_sem]
  have y2 : W0.cell? ⟨w.heap.size + 1, 2, none⟩ = some (.int .i64 win) := by rw [hW0]; simp [go_sem]
  have v0 : W0.cell? ⟨w.heap.size + 2, 0, none⟩ = some (.int .i64 qb) := by rw [hW0]; simp [go_sem]
  have v1 : W0.cell? ⟨w.heap.size + 2, 1, none⟩ = some (.int .i64 qm) := by rw [hW0]; simp [go_sem]
  have v2 : W0.cell? ⟨w.heap.size + 2, 2, none⟩ = some (.int .i64 qf) := by rw [hW0]; simp [go_sem]
  have v3 : W0.cell? ⟨w.heap.size + 2, 3, none⟩ = some (.int .i64 qc) := by rw [hW0]; simp [go_sem]
  have v4 : W0.cell? ⟨w.heap.size + 2, 4, none⟩ = some (.slice pa pn pc) := by rw [hW0]; simp [go_sem]
  have zx := lt_of_cell x0
  have zy := lt_of_cell y0
  have zv := lt_of_cell v0
  have hwc : 0 ≤ qc → IntKind.i64.wrap ((wn : Int) - qc) = (wn : Int) - qc := fun h => IntWalk.i64_in _ (by have := hc.2; omega)
  have hI := hid hc
  replace hLx := hLx.grown hB0
  replace hSw := hSw.grown hB0
  replace hN := hN.grown hB0
  replace hP := hP.grown hB0
  have HB := hid hB0
  clear hB0 hc
  by_cases f0 : qf < 0
  · have hz : z = 2 := by rw [← HZ.out]; exact alone_2 (misses_yes HR.out (.inl f0))
    subst hz
    go_enter Tryz.func62, Tryz.ntmps62
    go_wp2_with fail
    rw [← hW0]
    go_ret
    exact ⟨rfl, HB.out⟩
  by_cases k0 : qc < 0
  · have hz : z = 2 := by rw [← HZ.out]; exact alone_2 (misses_yes HR.out (.inr (.inl k0)))
    subst hz
    go_enter Tryz.func62, Tryz.ntmps62
    go_wp2_with fail
    rw [← hW0]
    go_ret
    exact ⟨rfl, HB.out⟩
  replace hwc := hwc (by omega)
  by_cases hfk : (wn : Int) - qc < qf
  · have hz : z = 2 := by rw [← HZ.out]; exact alone_2 (misses_yes HR.out (.inr (.inr hfk)))
    subst hz
    go_enter Tryz.func62, Tryz.ntmps62
    go_wp2_with fail
    rw [← hW0]
    go_ret
    exact ⟨rfl, HB.out⟩
  have HM := hid (misses_no HR.out (q := ⟨qb, qm, qf, qc, qp⟩) f0 k0 hfk)
  by_cases k8 : 8 < qc
  · have hz : z = 1 := by rw [← HZ.out]; exact alone_1 HM.out (malformed_yes (.inl k8))
    subst hz
    go_enter Tryz.func62, Tryz.ntmps62
    go_wp2_with fail
    rw [← hW0]
    go_ret
    exact ⟨rfl, HB.out⟩
  have HK8 : Hid (¬ 8 < qc) := hid k8
  go_enter Tryz.func62, Tryz.ntmps62
  go_wp2_with fail
  rw [← hW0]
  clear hW0
  have zx := lt_of_cell x0
  have zy := lt_of_cell y0
  have zv := lt_of_cell v0
  obtain ⟨l0, hl0⟩ : ∃ n : Nat, qf = n := ⟨qf.toNat, by omega⟩
  obtain ⟨k, hk⟩ : ∃ n : Nat, qc = n := ⟨qc.toNat, by omega⟩
  subst hl0 hk
  have hlk : l0 + k ≤ wn := by omega
  have hk8 : k ≤ 8 := by omega
  clear hfk f0 k0 k8 hwc
  obtain ⟨tb, htb⟩ : ∃ b, (qp.all textOk && decide ((pn : Int) ≤ 8)) = b := ⟨_, rfl⟩
  refine (refTexts_any qp 8 pn pc pa W0 HP.out (by unfold maxLen; omega) hP HPS.out).mono ?_
  rintro e w1 ⟨rfl, hb⟩
  rw [htb]
  replace HB := hid (below_then HB.out hb)
  replace x0 := cell_grown hb x0
  replace x1 := cell_grown hb x1
  replace x2 := cell_grown hb x2
  replace y0 := cell_grown hb y0
  replace y1 := cell_grown hb y1
  replace y2 := cell_grown hb y2
  replace v0 := cell_grown hb v0
  replace v1 := cell_grown hb v1
  replace v2 := cell_grown hb v2
  replace v3 := cell_grown hb v3
  replace v4 := cell_grown hb v4
  replace hLx := hLx.grown hb
  replace hSw := hSw.grown hb
  replace hN := hN.grown hb
  replace hP := hP.grown hb
  clear hb
  cases tb
  · have hz : z = 1 := by
      rw [← HZ.out]
      refine alone_1 HM.out (malformed_yes ?_)
      rcases (Bool.and_eq_false_iff.1 htb) with h | h
      · exact .inr (.inr (.inl h))
      · exact .inr (.inl (by rw [decide_eq_false_iff_not] at h; have := HP.out; simp only at *; omega))
    subst hz
    go_wp2
    go_ret
    exact ⟨rfl, HB.out⟩
  obtain ⟨ht1, ht2⟩ := Bool.and_eq_true_iff.1 htb
  rw [decide_eq_true_eq] at ht2
  have HT1 := hid ht1
  have hp8 : pn ≤ 8 := by omega
  clear htb ht1 ht2
  have HMF : Hid (¬ (k = 0 ∧ pn = 0) → memberOk qb = true → malformedM qp (askQ ⟨qb, qm, l0, k, qp⟩) = false) := hid (fun h1 h2 => malformed_no (q := ⟨qb, qm, l0, k, qp⟩) (by show ¬ (8 : Int) < (k : Int); omega) (by have := HP.out; simp only at *; omega) HT1.out (by have := HP.out; simp only at *; omega) h2)
  obtain ⟨bk, hbk⟩ : ∃ b, ((k : Int) == 0) = b := ⟨_, rfl⟩
  obtain ⟨mb, hmb⟩ : ∃ b, memberOk qb = b := ⟨_, rfl⟩
  have hcall : ∀ W, Calls Tryz.prog 49 #[.int .i64 qb, .int .i64 0, .int .i64 999] W fun e w' => e = .returned (.bool mb) ∧ w' = W := fun W => (rin_any _ _ _ _).mono fun e w' h => ⟨by rw [h.1, ← hmb]; rfl, h.2.symm⟩
  cases bk
  · have hk0 : ¬ k = 0 := by simp at hbk; omega
    go_wp2_with fail
    refine (hcall _).mono ?_
    rintro e w2 ⟨rfl, rfl⟩
    cases mb
    · have hz : z = 1 := by rw [← HZ.out]; exact alone_1 HM.out (malformed_yes (.inr (.inr (.inr (.inr hmb)))))
      subst hz
      go_wp2
      go_ret
      exact ⟨rfl, HB.out⟩
    replace HMF := hid (HMF.out (fun h => hk0 h.1) hmb)
    have HZ0 : Hid (k = 0 → meddlesM R qb l0 0 = false) := hid (fun h => absurd h hk0)
    clear hcall hmb hk0
    have hw1 : IntKind.i64.wrap ((l0 : Int) + (k : Int)) = (l0 : Int) + (k : Int) := IntWalk.i64_in _ (by omega)
    go_wp2_with fail
    obtain ⟨Wt, hWt⟩ : ∃ W, W = w2 := ⟨_, rfl⟩
    rw [← hWt] at HB x0 x1 x2 y0 y1 y2 v0 v1 v2 v3 v4 hLx hSw hN hP ⊢
    clear hWt
    go_loopw [9] (fun i wr => ∃ j : Nat, j ≤ k ∧ i = .int .i64 ((l0 : Int) + (j : Int)) ∧ Hid (∀ t : Nat, t < j → ownZ R qb ((l0 : Int) + (t : Int)) = true) ∧ Below Wt.heap.size Wt wr) (fun i _ => ((l0 : Int) + (k : Int) + 1 - intOf i).toNat)
    case atStart => exact ⟨0, Nat.zero_le _, by simp, hid (fun t h => by omega), Below.refl _ _⟩
    case round =>
      obtain ⟨j, hj, rfl, HO, hb⟩ := hrel
      obtain ⟨kk, hkk⟩ : ∃ z, (l0 : Int) + (j : Int) = z := ⟨_, rfl⟩
      rw [hkk]
      have HKK := hid hkk
      have k1 : 0 ≤ kk := by omega
      have k2 : kk ≤ 1009 := by omega
      clear hkk
      have HBL := hid hb
      replace HB := hid (below_then HB.out hb)
      replace x0 := cell_grown hb x0
      replace x1 := cell_grown hb x1
      replace x2 := cell_grown hb x2
      replace y0 := cell_grown hb y0
      replace y1 := cell_grown hb y1
      replace y2 := cell_grown hb y2
      replace v0 := cell_grown hb v0
      replace v1 := cell_grown hb v1
      replace v2 := cell_grown hb v2
      replace v3 := cell_grown hb v3
      replace v4 := cell_grown hb v4
      replace hLx := hLx.grown hb
      replace hSw := hSw.grown hb
      replace hN := hN.grown hb
      replace hP := hP.grown hb
      clear hb
      have zx := lt_of_cell x0
      have zy := lt_of_cell y0
      have zv := lt_of_cell v0
      by_cases hjk : kk < (l0 : Int) + (k : Int)
      · go_wp2_with fail
        refine (owns_any R out win wn wc wa kk qb _ HR.out hwn hN).mono ?_
        rintro e w5 ⟨rfl, hb5⟩
        cases ho : ownZ R qb kk
        · have hz : z = 5 := by
            rw [← HZ.out]
            refine alone_5 HM.out HMF.out ?_
            show meddlesM R qb (Int.toNat (l0 : Int)) (Int.toNat (k : Int)) = true
            rw [Int.toNat_natCast, Int.toNat_natCast]
            exact meddles_hit (i := j) (by have := HKK.out; omega) (by rw [HR.out]; exact hlk) (by rw [HKK.out]; exact ho)
          subst hz
          go_wp2
          go_ret
          exact ⟨rfl, below_then HB.out hb5⟩
        · go_wp2
          go_roundw
          case rel => exact ⟨j + 1, by have := HKK.out; omega, by rw [← HKK.out]; first | rfl | (congr 1; done) | (congr 1; omega), hid (fun t ht => by
            by_cases e : t = j
            · subst e; rw [HKK.out]; exact ho
            · exact HO.out t (by omega)), below_then HBL.out hb5⟩
          case measure => simp [intOf]; omega
      · have hjj : j = k := by have := HKK.out; omega
        have HMD : Hid (meddlesM R qb (Int.toNat (l0 : Int)) (Int.toNat (k : Int)) = false) := hid (by
          rw [Int.toNat_natCast, Int.toNat_natCast]
          by_cases hk0 : k = 0
          · have := HZ0.out hk0; rw [hk0]; exact this
          · exact meddles_not (by omega) (by rw [HR.out]; exact hlk) (fun i hi => HO.out i (by omega)))
        clear HO HKK hjj HBL
        have hwo : IntKind.i64.wrap (out + win) = out + win := IntWalk.i64_in _ (by omega)
        by_cases m1 : qm < out
        · have hz : z = 11 := by rw [← HZ.out]; exact alone_11 HM.out HMF.out HMD.out (late_yes (.inl m1))
          subst hz
          go_wp2
          go_ret
          exact ⟨rfl, HB.out⟩
        by_cases m2 : out + win < qm
        · have hz : z = 11 := by rw [← HZ.out]; exact alone_11 HM.out HMF.out HMD.out (late_yes (.inr m2))
          subst hz
          go_wp2
          go_ret
          exact ⟨rfl, HB.out⟩
        have hz9 : (if keepsM S (senseM (entries l) (textsM R l0 k)) (senseM (entries l) qp) then (0 : Int) else 9) = z := by
          rw [← HZ.out, alone_9 HM.out HMF.out HMD.out (late_no m1 m2)]
          show _ = (if keepsM S (senseM (entries l) (textsM R (Int.toNat (l0 : Int)) (Int.toNat (k : Int)))) (senseM (entries l) qp) then (0 : Int) else 9)
          rw [Int.toNat_natCast, Int.toNat_natCast]
        have hTL : (textsM R l0 k).length = k := textsM_length HR.out hlk
        have hTS : ∀ t ∈ textsM R l0 k, t.size ≤ 1000 := fun t ht => by obtain ⟨n, hn, rfl⟩ := textsM_mem ht; exact HRS.out n hn
        have HL1 : Hid ((senseM (entries l) (textsM R l0 k)).length ≤ 1000) := hid (by have := senseM_length (entries l) (textsM R l0 k); omega)
        have HL2 : Hid ((senseM (entries l) qp).length ≤ 1000) := hid (by have h1 := senseM_length (entries l) qp; have h2 : qp.length = pn := HP.out; omega)
        obtain ⟨kb, hkb⟩ : ∃ b, keepsM S (senseM (entries l) (textsM R l0 k)) (senseM (entries l) qp) = b := ⟨_, rfl⟩
        rw [hkb] at hz9
        have HKB := hid hkb
        have hBd : Below wr.heap.size wr wr.drew := (Below.refl _ _).drew
        clear hkb HM HMF HMD HZ HZ0 HT1 HK8
        cases kb
        · have hz : z = 9 := hz9.symm
          subst hz
          clear hz9
          go_wp2_with fail
          go_region_held3 (fun w' : World => w'.cell? ⟨w.heap.size, 0, none⟩ = some (.slice a1 n1 c1) ∧ w'.cell? ⟨w.heap.size, 1, none⟩ = some (.slice a2 n2 c2) ∧ w'.cell? ⟨w.heap.size, 2, none⟩ = some (.slice a3 n3 c3) ∧ w'.cell? ⟨w.heap.size + 1, 0, none⟩ = some (.slice wa wn wc) ∧ w'.cell? ⟨w.heap.size + 1, 1, none⟩ = some (.int .i64 out) ∧ w'.cell? ⟨w.heap.size + 1, 2, none⟩ = some (.int .i64 win) ∧ w'.cell? ⟨w.heap.size + 2, 0, none⟩ = some (.int .i64 qb) ∧ w'.cell? ⟨w.heap.size + 2, 1, none⟩ = some (.int .i64 qm) ∧ w'.cell? ⟨w.heap.size + 2, 2, none⟩ = some (.int .i64 (l0 : Int)) ∧ w'.cell? ⟨w.heap.size + 2, 3, none⟩ = some (.int .i64 (k : Int)) ∧ w'.cell? ⟨w.heap.size + 2, 4, none⟩ = some (.slice pa pn pc)) (exact ⟨x0, x1, x2, y0, y1, y2, v0, v1, v2, v3, v4⟩) (first | (go_at_call 47; replace HB := hid (below_then HB.out hBd); replace x0 := cell_grown hBd x0; replace x1 := cell_grown hBd x1; replace x2 := cell_grown hBd x2; replace y0 := cell_grown hBd y0; replace y1 := cell_grown hBd y1; replace y2 := cell_grown hBd y2; replace v0 := cell_grown hBd v0; replace v1 := cell_grown hBd v1; replace v2 := cell_grown hBd v2; replace v3 := cell_grown hBd v3; replace v4 := cell_grown hBd v4; replace hLx := hLx.grown hBd; replace hSw := hSw.grown hBd; replace hN := hN.grown hBd; replace hP := hP.grown hBd; refine (olds_any R out win wn wc wa l0 k _ HR.out hwn hN hlk).mono ?_; rintro e wl1 ⟨oa, oc, rfl, hO, hb1⟩; replace HB := hid (below_then HB.out hb1); replace x0 := cell_grown hb1 x0; replace x1 := cell_grown hb1 x1; replace x2 := cell_grown hb1 x2; replace y0 := cell_grown hb1 y0; replace y1 := cell_grown hb1 y1; replace y2 := cell_grown hb1 y2; replace v0 := cell_grown hb1 v0; replace v1 := cell_grown hb1 v1; replace v2 := cell_grown hb1 v2; replace v3 := cell_grown hb1 v3; replace v4 := cell_grown hb1 v4; replace hLx := hLx.grown hb1; replace hSw := hSw.grown hb1; replace hN := hN.grown hb1; replace hP := hP.grown hb1) | (go_at_call_has 25 oa; refine (refSense_any l a1 a2 a3 n1 n2 n3 c1 c2 c3 (textsM R l0 k) k oc oa _ H1.out H2.out H3.out hLx hTL (by omega) hO hTS).mono ?_; rintro e wl2 ⟨va, vc, rfl, hown, hb2⟩; have hMA := marks_of_owns hown; replace HB := hid (below_then HB.out hb2); replace x0 := cell_grown hb2 x0; replace x1 := cell_grown hb2 x1; replace x2 := cell_grown hb2 x2; replace y0 := cell_grown hb2 y0; replace y1 := cell_grown hb2 y1; replace y2 := cell_grown hb2 y2; replace v0 := cell_grown hb2 v0; replace v1 := cell_grown hb2 v1; replace v2 := cell_grown hb2 v2; replace v3 := cell_grown hb2 v3; replace v4 := cell_grown hb2 v4; replace hLx := hLx.grown hb2; replace hSw := hSw.grown hb2; replace hN := hN.grown hb2; replace hP := hP.grown hb2) | (go_at_call_has 25 pa; refine (refSense_any l a1 a2 a3 n1 n2 n3 c1 c2 c3 qp pn pc pa _ H1.out H2.out H3.out hLx HP.out (by omega) hP HPS.out).mono ?_; rintro e wl3 ⟨vb, vd, rfl, hown2, hb3⟩; have hMB := marks_of_owns hown2; replace HB := hid (below_then HB.out hb3); replace x0 := cell_grown hb3 x0; replace x1 := cell_grown hb3 x1; replace x2 := cell_grown hb3 x2; replace y0 := cell_grown hb3 y0; replace y1 := cell_grown hb3 y1; replace y2 := cell_grown hb3 y2; replace v0 := cell_grown hb3 v0; replace v1 := cell_grown hb3 v1; replace v2 := cell_grown hb3 v2; replace v3 := cell_grown hb3 v3; replace v4 := cell_grown hb3 v4; replace hLx := hLx.grown hb3; replace hSw := hSw.grown hb3; replace hN := hN.grown hb3; replace hP := hP.grown hb3; replace hMA := hMA.grown hb3) | (go_at_call 82; refine (becomesAll_any S sn sc sa (senseM (entries l) (textsM R l0 k)) (senseM (entries l) qp) _ _ vc vd va vb _ HS.out hsn hSw rfl HL1.out hMA rfl hMB).mono ?_; rintro e wl4 ⟨he, hb4⟩; rw [HKB.out] at he; subst he; replace HB := hid (below_then HB.out hb4); replace x0 := cell_grown hb4 x0; replace x1 := cell_grown hb4 x1; replace x2 := cell_grown hb4 x2; replace y0 := cell_grown hb4 y0; replace y1 := cell_grown hb4 y1; replace y2 := cell_grown hb4 y2; replace v0 := cell_grown hb4 v0; replace v1 := cell_grown hb4 v1; replace v2 := cell_grown hb4 v2; replace v3 := cell_grown hb4 v3; replace v4 := cell_grown hb4 v4; replace hLx := hLx.grown hb4; replace hSw := hSw.grown hb4; replace hN := hN.grown hb4; replace hP := hP.grown hb4))
          go_wp2
          go_ret
          exact ⟨rfl, HB.out⟩
        · have hz : z = 0 := hz9.symm
          subst hz
          clear hz9
          go_wp2_with fail
          go_region_held3 (fun w' : World => w'.cell? ⟨w.heap.size, 0, none⟩ = some (.slice a1 n1 c1) ∧ w'.cell? ⟨w.heap.size, 1, none⟩ = some (.slice a2 n2 c2) ∧ w'.cell? ⟨w.heap.size, 2, none⟩ = some (.slice a3 n3 c3) ∧ w'.cell? ⟨w.heap.size + 1, 0, none⟩ = some (.slice wa wn wc) ∧ w'.cell? ⟨w.heap.size + 1, 1, none⟩ = some (.int .i64 out) ∧ w'.cell? ⟨w.heap.size + 1, 2, none⟩ = some (.int .i64 win) ∧ w'.cell? ⟨w.heap.size + 2, 0, none⟩ = some (.int .i64 qb) ∧ w'.cell? ⟨w.heap.size + 2, 1, none⟩ = some (.int .i64 qm) ∧ w'.cell? ⟨w.heap.size + 2, 2, none⟩ = some (.int .i64 (l0 : Int)) ∧ w'.cell? ⟨w.heap.size + 2, 3, none⟩ = some (.int .i64 (k : Int)) ∧ w'.cell? ⟨w.heap.size + 2, 4, none⟩ = some (.slice pa pn pc)) (exact ⟨x0, x1, x2, y0, y1, y2, v0, v1, v2, v3, v4⟩) (first | (go_at_call 47; replace HB := hid (below_then HB.out hBd); replace x0 := cell_grown hBd x0; replace x1 := cell_grown hBd x1; replace x2 := cell_grown hBd x2; replace y0 := cell_grown hBd y0; replace y1 := cell_grown hBd y1; replace y2 := cell_grown hBd y2; replace v0 := cell_grown hBd v0; replace v1 := cell_grown hBd v1; replace v2 := cell_grown hBd v2; replace v3 := cell_grown hBd v3; replace v4 := cell_grown hBd v4; replace hLx := hLx.grown hBd; replace hSw := hSw.grown hBd; replace hN := hN.grown hBd; replace hP := hP.grown hBd; refine (olds_any R out win wn wc wa l0 k _ HR.out hwn hN hlk).mono ?_; rintro e wl1 ⟨oa, oc, rfl, hO, hb1⟩; replace HB := hid (below_then HB.out hb1); replace x0 := cell_grown hb1 x0; replace x1 := cell_grown hb1 x1; replace x2 := cell_grown hb1 x2; replace y0 := cell_grown hb1 y0; replace y1 := cell_grown hb1 y1; replace y2 := cell_grown hb1 y2; replace v0 := cell_grown hb1 v0; replace v1 := cell_grown hb1 v1; replace v2 := cell_grown hb1 v2; replace v3 := cell_grown hb1 v3; replace v4 := cell_grown hb1 v4; replace hLx := hLx.grown hb1; replace hSw := hSw.grown hb1; replace hN := hN.grown hb1; replace hP := hP.grown hb1) | (go_at_call_has 25 oa; refine (refSense_any l a1 a2 a3 n1 n2 n3 c1 c2 c3 (textsM R l0 k) k oc oa _ H1.out H2.out H3.out hLx hTL (by omega) hO hTS).mono ?_; rintro e wl2 ⟨va, vc, rfl, hown, hb2⟩; have hMA := marks_of_owns hown; replace HB := hid (below_then HB.out hb2); replace x0 := cell_grown hb2 x0; replace x1 := cell_grown hb2 x1; replace x2 := cell_grown hb2 x2; replace y0 := cell_grown hb2 y0; replace y1 := cell_grown hb2 y1; replace y2 := cell_grown hb2 y2; replace v0 := cell_grown hb2 v0; replace v1 := cell_grown hb2 v1; replace v2 := cell_grown hb2 v2; replace v3 := cell_grown hb2 v3; replace v4 := cell_grown hb2 v4; replace hLx := hLx.grown hb2; replace hSw := hSw.grown hb2; replace hN := hN.grown hb2; replace hP := hP.grown hb2) | (go_at_call_has 25 pa; refine (refSense_any l a1 a2 a3 n1 n2 n3 c1 c2 c3 qp pn pc pa _ H1.out H2.out H3.out hLx HP.out (by omega) hP HPS.out).mono ?_; rintro e wl3 ⟨vb, vd, rfl, hown2, hb3⟩; have hMB := marks_of_owns hown2; replace HB := hid (below_then HB.out hb3); replace x0 := cell_grown hb3 x0; replace x1 := cell_grown hb3 x1; replace x2 := cell_grown hb3 x2; replace y0 := cell_grown hb3 y0; replace y1 := cell_grown hb3 y1; replace y2 := cell_grown hb3 y2; replace v0 := cell_grown hb3 v0; replace v1 := cell_grown hb3 v1; replace v2 := cell_grown hb3 v2; replace v3 := cell_grown hb3 v3; replace v4 := cell_grown hb3 v4; replace hLx := hLx.grown hb3; replace hSw := hSw.grown hb3; replace hN := hN.grown hb3; replace hP := hP.grown hb3; replace hMA := hMA.grown hb3) | (go_at_call 82; refine (becomesAll_any S sn sc sa (senseM (entries l) (textsM R l0 k)) (senseM (entries l) qp) _ _ vc vd va vb _ HS.out hsn hSw rfl HL1.out hMA rfl hMB).mono ?_; rintro e wl4 ⟨he, hb4⟩; rw [HKB.out] at he; subst he; replace HB := hid (below_then HB.out hb4); replace x0 := cell_grown hb4 x0; replace x1 := cell_grown hb4 x1; replace x2 := cell_grown hb4 x2; replace y0 := cell_grown hb4 y0; replace y1 := cell_grown hb4 y1; replace y2 := cell_grown hb4 y2; replace v0 := cell_grown hb4 v0; replace v1 := cell_grown hb4 v1; replace v2 := cell_grown hb4 v2; replace v3 := cell_grown hb4 v3; replace v4 := cell_grown hb4 v4; replace hLx := hLx.grown hb4; replace hSw := hSw.grown hb4; replace hN := hN.grown hb4; replace hP := hP.grown hb4))
          go_wp2
          go_ret
          exact ⟨rfl, HB.out⟩
  · have hk0 : k = 0 := by simp at hbk; omega
    by_cases hpz : pn = 0
    · have hz : z = 1 := by rw [← HZ.out]; exact alone_1 HM.out (malformed_yes (.inr (.inr (.inr (.inl ⟨by show (k : Int) = 0; omega, by rw [← hpz]; exact HP.out⟩)))))
      have gp : ((pn : Int) == 0) = true := by simp; omega
      subst hz
      go_wp2
      go_ret
      exact ⟨rfl, HB.out⟩
    have gp : ((pn : Int) == 0) = false := by simp; omega
    go_wp2_with fail
    refine (hcall _).mono ?_
    rintro e w2 ⟨rfl, rfl⟩
    cases mb
    · have hz : z = 1 := by rw [← HZ.out]; exact alone_1 HM.out (malformed_yes (.inr (.inr (.inr (.inr hmb)))))
      subst hz
      go_wp2
      go_ret
      exact ⟨rfl, HB.out⟩
    replace HMF := hid (HMF.out (fun h => hpz h.2) hmb)
    clear hcall hmb gp hpz
    have hwl : IntKind.i64.wrap ((l0 : Int) - 1) = (l0 : Int) - 1 := IntWalk.i64_in _ (by omega)
    go_wp2_with fail
    refine (owns_any R out win wn wc wa ((l0 : Int) - 1) qb _ HR.out hwn hN).mono ?_
    rintro e w3 ⟨rfl, hb⟩
    replace HB := hid (below_then HB.out hb)
    replace x0 := cell_grown hb x0
    replace x1 := cell_grown hb x1
    replace x2 := cell_grown hb x2
    replace y0 := cell_grown hb y0
    replace y1 := cell_grown hb y1
    replace y2 := cell_grown hb y2
    replace v0 := cell_grown hb v0
    replace v1 := cell_grown hb v1
    replace v2 := cell_grown hb v2
    replace v3 := cell_grown hb v3
    replace v4 := cell_grown hb v4
    replace hLx := hLx.grown hb
    replace hSw := hSw.grown hb
    replace hN := hN.grown hb
    replace hP := hP.grown hb
    clear hb
    cases ho1 : ownZ R qb ((l0 : Int) - 1)
    · go_wp2_with fail
      refine (owns_any R out win wn wc wa (l0 : Int) qb _ HR.out hwn hN).mono ?_
      rintro e w4 ⟨rfl, hb⟩
      replace HB := hid (below_then HB.out hb)
      replace x0 := cell_grown hb x0
      replace x1 := cell_grown hb x1
      replace x2 := cell_grown hb x2
      replace y0 := cell_grown hb y0
      replace y1 := cell_grown hb y1
      replace y2 := cell_grown hb y2
      replace v0 := cell_grown hb v0
      replace v1 := cell_grown hb v1
      replace v2 := cell_grown hb v2
      replace v3 := cell_grown hb v3
      replace v4 := cell_grown hb v4
      replace hLx := hLx.grown hb
      replace hSw := hSw.grown hb
      replace hN := hN.grown hb
      replace hP := hP.grown hb
      clear hb
      cases ho2 : ownZ R qb (l0 : Int)
      · have hz : z = 5 := by
          rw [← HZ.out]
          refine alone_5 HM.out HMF.out ?_
          show meddlesM R qb (Int.toNat (l0 : Int)) (Int.toNat (k : Int)) = true
          rw [Int.toNat_natCast, Int.toNat_natCast, hk0]
          exact meddles_zero_hit ho1 ho2
        subst hz
        go_wp2
        go_ret
        exact ⟨rfl, HB.out⟩
      have HZ0 : Hid (k = 0 → meddlesM R qb l0 0 = false) := hid (fun _ => meddles_zero_not (.inr ho2))
      clear ho1 ho2 hwl hk0
      have hw1 : IntKind.i64.wrap ((l0 : Int) + (k : Int)) = (l0 : Int) + (k : Int) := IntWalk.i64_in _ (by omega)
      go_wp2_with fail
      obtain ⟨Wt, hWt⟩ : ∃ W, W = w4 := ⟨_, rfl⟩
      rw [← hWt] at HB x0 x1 x2 y0 y1 y2 v0 v1 v2 v3 v4 hLx hSw hN hP ⊢
      clear hWt
      go_loopw [9] (fun i wr => ∃ j : Nat, j ≤ k ∧ i = .int .i64 ((l0 : Int) + (j : Int)) ∧ Hid (∀ t : Nat, t < j → ownZ R qb ((l0 : Int) + (t : Int)) = true) ∧ Below Wt.heap.size Wt wr) (fun i _ => ((l0 : Int) + (k : Int) + 1 - intOf i).toNat)
      case atStart => exact ⟨0, Nat.zero_le _, by simp, hid (fun t h => by omega), Below.refl _ _⟩
      case round =>
        obtain ⟨j, hj, rfl, HO, hb⟩ := hrel
        obtain ⟨kk, hkk⟩ : ∃ z, (l0 : Int) + (j : Int) = z := ⟨_, rfl⟩
        rw [hkk]
        have HKK := hid hkk
        have k1 : 0 ≤ kk := by omega
        have k2 : kk ≤ 1009 := by omega
        clear hkk
        have HBL := hid hb
        replace HB := hid (below_then HB.out hb)
        replace x0 := cell_grown hb x0
        replace x1 := cell_grown hb x1
        replace x2 := cell_grown hb x2
        replace y0 := cell_grown hb y0
        replace y1 := cell_grown hb y1
        replace y2 := cell_grown hb y2
        replace v0 := cell_grown hb v0
        replace v1 := cell_grown hb v1
        replace v2 := cell_grown hb v2
        replace v3 := cell_grown hb v3
        replace v4 := cell_grown hb v4
        replace hLx := hLx.grown hb
        replace hSw := hSw.grown hb
        replace hN := hN.grown hb
        replace hP := hP.grown hb
        clear hb
        have zx := lt_of_cell x0
        have zy := lt_of_cell y0
        have zv := lt_of_cell v0
        by_cases hjk : kk < (l0 : Int) + (k : Int)
        · go_wp2_with fail
          refine (owns_any R out win wn wc wa kk qb _ HR.out hwn hN).mono ?_
          rintro e w5 ⟨rfl, hb5⟩
          cases ho : ownZ R qb kk
          · have hz : z = 5 := by
              rw [← HZ.out]
              refine alone_5 HM.out HMF.out ?_
              show meddlesM R qb (Int.toNat (l0 : Int)) (Int.toNat (k : Int)) = true
              rw [Int.toNat_natCast, Int.toNat_natCast]
              exact meddles_hit (i := j) (by have := HKK.out; omega) (by rw [HR.out]; exact hlk) (by rw [HKK.out]; exact ho)
            subst hz
            go_wp2
            go_ret
            exact ⟨rfl, below_then HB.out hb5⟩
          · go_wp2
            go_roundw
            case rel => exact ⟨j + 1, by have := HKK.out; omega, by rw [← HKK.out]; first | rfl | (congr 1; done) | (congr 1; omega), hid (fun t ht => by
              by_cases e : t = j
              · subst e; rw [HKK.out]; exact ho
              · exact HO.out t (by omega)), below_then HBL.out hb5⟩
            case measure => simp [intOf]; omega
        · have hjj : j = k := by have := HKK.out; omega
          have HMD : Hid (meddlesM R qb (Int.toNat (l0 : Int)) (Int.toNat (k : Int)) = false) := hid (by
            rw [Int.toNat_natCast, Int.toNat_natCast]
            by_cases hk0 : k = 0
            · have := HZ0.out hk0; rw [hk0]; exact this
            · exact meddles_not (by omega) (by rw [HR.out]; exact hlk) (fun i hi => HO.out i (by omega)))
          clear HO HKK hjj HBL
          have hwo : IntKind.i64.wrap (out + win) = out + win := IntWalk.i64_in _ (by omega)
          by_cases m1 : qm < out
          · have hz : z = 11 := by rw [← HZ.out]; exact alone_11 HM.out HMF.out HMD.out (late_yes (.inl m1))
            subst hz
            go_wp2
            go_ret
            exact ⟨rfl, HB.out⟩
          by_cases m2 : out + win < qm
          · have hz : z = 11 := by rw [← HZ.out]; exact alone_11 HM.out HMF.out HMD.out (late_yes (.inr m2))
            subst hz
            go_wp2
            go_ret
            exact ⟨rfl, HB.out⟩
          have hz9 : (if keepsM S (senseM (entries l) (textsM R l0 k)) (senseM (entries l) qp) then (0 : Int) else 9) = z := by
            rw [← HZ.out, alone_9 HM.out HMF.out HMD.out (late_no m1 m2)]
            show _ = (if keepsM S (senseM (entries l) (textsM R (Int.toNat (l0 : Int)) (Int.toNat (k : Int)))) (senseM (entries l) qp) then (0 : Int) else 9)
            rw [Int.toNat_natCast, Int.toNat_natCast]
          have hTL : (textsM R l0 k).length = k := textsM_length HR.out hlk
          have hTS : ∀ t ∈ textsM R l0 k, t.size ≤ 1000 := fun t ht => by obtain ⟨n, hn, rfl⟩ := textsM_mem ht; exact HRS.out n hn
          have HL1 : Hid ((senseM (entries l) (textsM R l0 k)).length ≤ 1000) := hid (by have := senseM_length (entries l) (textsM R l0 k); omega)
          have HL2 : Hid ((senseM (entries l) qp).length ≤ 1000) := hid (by have h1 := senseM_length (entries l) qp; have h2 : qp.length = pn := HP.out; omega)
          obtain ⟨kb, hkb⟩ : ∃ b, keepsM S (senseM (entries l) (textsM R l0 k)) (senseM (entries l) qp) = b := ⟨_, rfl⟩
          rw [hkb] at hz9
          have HKB := hid hkb
          have hBd : Below wr.heap.size wr wr.drew := (Below.refl _ _).drew
          clear hkb HM HMF HMD HZ HZ0 HT1 HK8
          cases kb
          · have hz : z = 9 := hz9.symm
            subst hz
            clear hz9
            go_wp2_with fail
            go_region_held3 (fun w' : World => w'.cell? ⟨w.heap.size, 0, none⟩ = some (.slice a1 n1 c1) ∧ w'.cell? ⟨w.heap.size, 1, none⟩ = some (.slice a2 n2 c2) ∧ w'.cell? ⟨w.heap.size, 2, none⟩ = some (.slice a3 n3 c3) ∧ w'.cell? ⟨w.heap.size + 1, 0, none⟩ = some (.slice wa wn wc) ∧ w'.cell? ⟨w.heap.size + 1, 1, none⟩ = some (.int .i64 out) ∧ w'.cell? ⟨w.heap.size + 1, 2, none⟩ = some (.int .i64 win) ∧ w'.cell? ⟨w.heap.size + 2, 0, none⟩ = some (.int .i64 qb) ∧ w'.cell? ⟨w.heap.size + 2, 1, none⟩ = some (.int .i64 qm) ∧ w'.cell? ⟨w.heap.size + 2, 2, none⟩ = some (.int .i64 (l0 : Int)) ∧ w'.cell? ⟨w.heap.size + 2, 3, none⟩ = some (.int .i64 (k : Int)) ∧ w'.cell? ⟨w.heap.size + 2, 4, none⟩ = some (.slice pa pn pc)) (exact ⟨x0, x1, x2, y0, y1, y2, v0, v1, v2, v3, v4⟩) (first | (go_at_call 47; replace HB := hid (below_then HB.out hBd); replace x0 := cell_grown hBd x0; replace x1 := cell_grown hBd x1; replace x2 := cell_grown hBd x2; replace y0 := cell_grown hBd y0; replace y1 := cell_grown hBd y1; replace y2 := cell_grown hBd y2; replace v0 := cell_grown hBd v0; replace v1 := cell_grown hBd v1; replace v2 := cell_grown hBd v2; replace v3 := cell_grown hBd v3; replace v4 := cell_grown hBd v4; replace hLx := hLx.grown hBd; replace hSw := hSw.grown hBd; replace hN := hN.grown hBd; replace hP := hP.grown hBd; refine (olds_any R out win wn wc wa l0 k _ HR.out hwn hN hlk).mono ?_; rintro e wl1 ⟨oa, oc, rfl, hO, hb1⟩; replace HB := hid (below_then HB.out hb1); replace x0 := cell_grown hb1 x0; replace x1 := cell_grown hb1 x1; replace x2 := cell_grown hb1 x2; replace y0 := cell_grown hb1 y0; replace y1 := cell_grown hb1 y1; replace y2 := cell_grown hb1 y2; replace v0 := cell_grown hb1 v0; replace v1 := cell_grown hb1 v1; replace v2 := cell_grown hb1 v2; replace v3 := cell_grown hb1 v3; replace v4 := cell_grown hb1 v4; replace hLx := hLx.grown hb1; replace hSw := hSw.grown hb1; replace hN := hN.grown hb1; replace hP := hP.grown hb1) | (go_at_call_has 25 oa; refine (refSense_any l a1 a2 a3 n1 n2 n3 c1 c2 c3 (textsM R l0 k) k oc oa _ H1.out H2.out H3.out hLx hTL (by omega) hO hTS).mono ?_; rintro e wl2 ⟨va, vc, rfl, hown, hb2⟩; have hMA := marks_of_owns hown; replace HB := hid (below_then HB.out hb2); replace x0 := cell_grown hb2 x0; replace x1 := cell_grown hb2 x1; replace x2 := cell_grown hb2 x2; replace y0 := cell_grown hb2 y0; replace y1 := cell_grown hb2 y1; replace y2 := cell_grown hb2 y2; replace v0 := cell_grown hb2 v0; replace v1 := cell_grown hb2 v1; replace v2 := cell_grown hb2 v2; replace v3 := cell_grown hb2 v3; replace v4 := cell_grown hb2 v4; replace hLx := hLx.grown hb2; replace hSw := hSw.grown hb2; replace hN := hN.grown hb2; replace hP := hP.grown hb2) | (go_at_call_has 25 pa; refine (refSense_any l a1 a2 a3 n1 n2 n3 c1 c2 c3 qp pn pc pa _ H1.out H2.out H3.out hLx HP.out (by omega) hP HPS.out).mono ?_; rintro e wl3 ⟨vb, vd, rfl, hown2, hb3⟩; have hMB := marks_of_owns hown2; replace HB := hid (below_then HB.out hb3); replace x0 := cell_grown hb3 x0; replace x1 := cell_grown hb3 x1; replace x2 := cell_grown hb3 x2; replace y0 := cell_grown hb3 y0; replace y1 := cell_grown hb3 y1; replace y2 := cell_grown hb3 y2; replace v0 := cell_grown hb3 v0; replace v1 := cell_grown hb3 v1; replace v2 := cell_grown hb3 v2; replace v3 := cell_grown hb3 v3; replace v4 := cell_grown hb3 v4; replace hLx := hLx.grown hb3; replace hSw := hSw.grown hb3; replace hN := hN.grown hb3; replace hP := hP.grown hb3; replace hMA := hMA.grown hb3) | (go_at_call 82; refine (becomesAll_any S sn sc sa (senseM (entries l) (textsM R l0 k)) (senseM (entries l) qp) _ _ vc vd va vb _ HS.out hsn hSw rfl HL1.out hMA rfl hMB).mono ?_; rintro e wl4 ⟨he, hb4⟩; rw [HKB.out] at he; subst he; replace HB := hid (below_then HB.out hb4); replace x0 := cell_grown hb4 x0; replace x1 := cell_grown hb4 x1; replace x2 := cell_grown hb4 x2; replace y0 := cell_grown hb4 y0; replace y1 := cell_grown hb4 y1; replace y2 := cell_grown hb4 y2; replace v0 := cell_grown hb4 v0; replace v1 := cell_grown hb4 v1; replace v2 := cell_grown hb4 v2; replace v3 := cell_grown hb4 v3; replace v4 := cell_grown hb4 v4; replace hLx := hLx.grown hb4; replace hSw := hSw.grown hb4; replace hN := hN.grown hb4; replace hP := hP.grown hb4))
            go_wp2
            go_ret
            exact ⟨rfl, HB.out⟩
          · have hz : z = 0 := hz9.symm
            subst hz
            clear hz9
            go_wp2_with fail
            go_region_held3 (fun w' : World => w'.cell? ⟨w.heap.size, 0, none⟩ = some (.slice a1 n1 c1) ∧ w'.cell? ⟨w.heap.size, 1, none⟩ = some (.slice a2 n2 c2) ∧ w'.cell? ⟨w.heap.size, 2, none⟩ = some (.slice a3 n3 c3) ∧ w'.cell? ⟨w.heap.size + 1, 0, none⟩ = some (.slice wa wn wc) ∧ w'.cell? ⟨w.heap.size + 1, 1, none⟩ = some (.int .i64 out) ∧ w'.cell? ⟨w.heap.size + 1, 2, none⟩ = some (.int .i64 win) ∧ w'.cell? ⟨w.heap.size + 2, 0, none⟩ = some (.int .i64 qb) ∧ w'.cell? ⟨w.heap.size + 2, 1, none⟩ = some (.int .i64 qm) ∧ w'.cell? ⟨w.heap.size + 2, 2, none⟩ = some (.int .i64 (l0 : Int)) ∧ w'.cell? ⟨w.heap.size + 2, 3, none⟩ = some (.int .i64 (k : Int)) ∧ w'.cell? ⟨w.heap.size + 2, 4, none⟩ = some (.slice pa pn pc)) (exact ⟨x0, x1, x2, y0, y1, y2, v0, v1, v2, v3, v4⟩) (first | (go_at_call 47; replace HB := hid (below_then HB.out hBd); replace x0 := cell_grown hBd x0; replace x1 := cell_grown hBd x1; replace x2 := cell_grown hBd x2; replace y0 := cell_grown hBd y0; replace y1 := cell_grown hBd y1; replace y2 := cell_grown hBd y2; replace v0 := cell_grown hBd v0; replace v1 := cell_grown hBd v1; replace v2 := cell_grown hBd v2; replace v3 := cell_grown hBd v3; replace v4 := cell_grown hBd v4; replace hLx := hLx.grown hBd; replace hSw := hSw.grown hBd; replace hN := hN.grown hBd; replace hP := hP.grown hBd; refine (olds_any R out win wn wc wa l0 k _ HR.out hwn hN hlk).mono ?_; rintro e wl1 ⟨oa, oc, rfl, hO, hb1⟩; replace HB := hid (below_then HB.out hb1); replace x0 := cell_grown hb1 x0; replace x1 := cell_grown hb1 x1; replace x2 := cell_grown hb1 x2; replace y0 := cell_grown hb1 y0; replace y1 := cell_grown hb1 y1; replace y2 := cell_grown hb1 y2; replace v0 := cell_grown hb1 v0; replace v1 := cell_grown hb1 v1; replace v2 := cell_grown hb1 v2; replace v3 := cell_grown hb1 v3; replace v4 := cell_grown hb1 v4; replace hLx := hLx.grown hb1; replace hSw := hSw.grown hb1; replace hN := hN.grown hb1; replace hP := hP.grown hb1) | (go_at_call_has 25 oa; refine (refSense_any l a1 a2 a3 n1 n2 n3 c1 c2 c3 (textsM R l0 k) k oc oa _ H1.out H2.out H3.out hLx hTL (by omega) hO hTS).mono ?_; rintro e wl2 ⟨va, vc, rfl, hown, hb2⟩; have hMA := marks_of_owns hown; replace HB := hid (below_then HB.out hb2); replace x0 := cell_grown hb2 x0; replace x1 := cell_grown hb2 x1; replace x2 := cell_grown hb2 x2; replace y0 := cell_grown hb2 y0; replace y1 := cell_grown hb2 y1; replace y2 := cell_grown hb2 y2; replace v0 := cell_grown hb2 v0; replace v1 := cell_grown hb2 v1; replace v2 := cell_grown hb2 v2; replace v3 := cell_grown hb2 v3; replace v4 := cell_grown hb2 v4; replace hLx := hLx.grown hb2; replace hSw := hSw.grown hb2; replace hN := hN.grown hb2; replace hP := hP.grown hb2) | (go_at_call_has 25 pa; refine (refSense_any l a1 a2 a3 n1 n2 n3 c1 c2 c3 qp pn pc pa _ H1.out H2.out H3.out hLx HP.out (by omega) hP HPS.out).mono ?_; rintro e wl3 ⟨vb, vd, rfl, hown2, hb3⟩; have hMB := marks_of_owns hown2; replace HB := hid (below_then HB.out hb3); replace x0 := cell_grown hb3 x0; replace x1 := cell_grown hb3 x1; replace x2 := cell_grown hb3 x2; replace y0 := cell_grown hb3 y0; replace y1 := cell_grown hb3 y1; replace y2 := cell_grown hb3 y2; replace v0 := cell_grown hb3 v0; replace v1 := cell_grown hb3 v1; replace v2 := cell_grown hb3 v2; replace v3 := cell_grown hb3 v3; replace v4 := cell_grown hb3 v4; replace hLx := hLx.grown hb3; replace hSw := hSw.grown hb3; replace hN := hN.grown hb3; replace hP := hP.grown hb3; replace hMA := hMA.grown hb3) | (go_at_call 82; refine (becomesAll_any S sn sc sa (senseM (entries l) (textsM R l0 k)) (senseM (entries l) qp) _ _ vc vd va vb _ HS.out hsn hSw rfl HL1.out hMA rfl hMB).mono ?_; rintro e wl4 ⟨he, hb4⟩; rw [HKB.out] at he; subst he; replace HB := hid (below_then HB.out hb4); replace x0 := cell_grown hb4 x0; replace x1 := cell_grown hb4 x1; replace x2 := cell_grown hb4 x2; replace y0 := cell_grown hb4 y0; replace y1 := cell_grown hb4 y1; replace y2 := cell_grown hb4 y2; replace v0 := cell_grown hb4 v0; replace v1 := cell_grown hb4 v1; replace v2 := cell_grown hb4 v2; replace v3 := cell_grown hb4 v3; replace v4 := cell_grown hb4 v4; replace hLx := hLx.grown hb4; replace hSw := hSw.grown hb4; replace hN := hN.grown hb4; replace hP := hP.grown hb4))
            go_wp2
            go_ret
            exact ⟨rfl, HB.out⟩
    have HZ0 : Hid (k = 0 → meddlesM R qb l0 0 = false) := hid (fun _ => meddles_zero_not (.inl ho1))
    clear ho1 hwl hk0
    have hw1 : IntKind.i64.wrap ((l0 : Int) + (k : Int)) = (l0 : Int) + (k : Int) := IntWalk.i64_in _ (by omega)
    go_wp2_with fail
    obtain ⟨Wt, hWt⟩ : ∃ W, W = w3 := ⟨_, rfl⟩
    rw [← hWt] at HB x0 x1 x2 y0 y1 y2 v0 v1 v2 v3 v4 hLx hSw hN hP ⊢
    clear hWt
    go_loopw [9] (fun i wr => ∃ j : Nat, j ≤ k ∧ i = .int .i64 ((l0 : Int) + (j : Int)) ∧ Hid (∀ t : Nat, t < j → ownZ R qb ((l0 : Int) + (t : Int)) = true) ∧ Below Wt.heap.size Wt wr) (fun i _ => ((l0 : Int) + (k : Int) + 1 - intOf i).toNat)
    case atStart => exact ⟨0, Nat.zero_le _, by simp, hid (fun t h => by omega), Below.refl _ _⟩
    case round =>
      obtain ⟨j, hj, rfl, HO, hb⟩ := hrel
      obtain ⟨kk, hkk⟩ : ∃ z, (l0 : Int) + (j : Int) = z := ⟨_, rfl⟩
      rw [hkk]
      have HKK := hid hkk
      have k1 : 0 ≤ kk := by omega
      have k2 : kk ≤ 1009 := by omega
      clear hkk
      have HBL := hid hb
      replace HB := hid (below_then HB.out hb)
      replace x0 := cell_grown hb x0
      replace x1 := cell_grown hb x1
      replace x2 := cell_grown hb x2
      replace y0 := cell_grown hb y0
      replace y1 := cell_grown hb y1
      replace y2 := cell_grown hb y2
      replace v0 := cell_grown hb v0
      replace v1 := cell_grown hb v1
      replace v2 := cell_grown hb v2
      replace v3 := cell_grown hb v3
      replace v4 := cell_grown hb v4
      replace hLx := hLx.grown hb
      replace hSw := hSw.grown hb
      replace hN := hN.grown hb
      replace hP := hP.grown hb
      clear hb
      have zx := lt_of_cell x0
      have zy := lt_of_cell y0
      have zv := lt_of_cell v0
      by_cases hjk : kk < (l0 : Int) + (k : Int)
      · go_wp2_with fail
        refine (owns_any R out win wn wc wa kk qb _ HR.out hwn hN).mono ?_
        rintro e w5 ⟨rfl, hb5⟩
        cases ho : ownZ R qb kk
        · have hz : z = 5 := by
            rw [← HZ.out]
            refine alone_5 HM.out HMF.out ?_
            show meddlesM R qb (Int.toNat (l0 : Int)) (Int.toNat (k : Int)) = true
            rw [Int.toNat_natCast, Int.toNat_natCast]
            exact meddles_hit (i := j) (by have := HKK.out; omega) (by rw [HR.out]; exact hlk) (by rw [HKK.out]; exact ho)
          subst hz
          go_wp2
          go_ret
          exact ⟨rfl, below_then HB.out hb5⟩
        · go_wp2
          go_roundw
          case rel => exact ⟨j + 1, by have := HKK.out; omega, by rw [← HKK.out]; first | rfl | (congr 1; done) | (congr 1; omega), hid (fun t ht => by
            by_cases e : t = j
            · subst e; rw [HKK.out]; exact ho
            · exact HO.out t (by omega)), below_then HBL.out hb5⟩
          case measure => simp [intOf]; omega
      · have hjj : j = k := by have := HKK.out; omega
        have HMD : Hid (meddlesM R qb (Int.toNat (l0 : Int)) (Int.toNat (k : Int)) = false) := hid (by
          rw [Int.toNat_natCast, Int.toNat_natCast]
          by_cases hk0 : k = 0
          · have := HZ0.out hk0; rw [hk0]; exact this
          · exact meddles_not (by omega) (by rw [HR.out]; exact hlk) (fun i hi => HO.out i (by omega)))
        clear HO HKK hjj HBL
        have hwo : IntKind.i64.wrap (out + win) = out + win := IntWalk.i64_in _ (by omega)
        by_cases m1 : qm < out
        · have hz : z = 11 := by rw [← HZ.out]; exact alone_11 HM.out HMF.out HMD.out (late_yes (.inl m1))
          subst hz
          go_wp2
          go_ret
          exact ⟨rfl, HB.out⟩
        by_cases m2 : out + win < qm
        · have hz : z = 11 := by rw [← HZ.out]; exact alone_11 HM.out HMF.out HMD.out (late_yes (.inr m2))
          subst hz
          go_wp2
          go_ret
          exact ⟨rfl, HB.out⟩
        have hz9 : (if keepsM S (senseM (entries l) (textsM R l0 k)) (senseM (entries l) qp) then (0 : Int) else 9) = z := by
          rw [← HZ.out, alone_9 HM.out HMF.out HMD.out (late_no m1 m2)]
          show _ = (if keepsM S (senseM (entries l) (textsM R (Int.toNat (l0 : Int)) (Int.toNat (k : Int)))) (senseM (entries l) qp) then (0 : Int) else 9)
          rw [Int.toNat_natCast, Int.toNat_natCast]
        have hTL : (textsM R l0 k).length = k := textsM_length HR.out hlk
        have hTS : ∀ t ∈ textsM R l0 k, t.size ≤ 1000 := fun t ht => by obtain ⟨n, hn, rfl⟩ := textsM_mem ht; exact HRS.out n hn
        have HL1 : Hid ((senseM (entries l) (textsM R l0 k)).length ≤ 1000) := hid (by have := senseM_length (entries l) (textsM R l0 k); omega)
        have HL2 : Hid ((senseM (entries l) qp).length ≤ 1000) := hid (by have h1 := senseM_length (entries l) qp; have h2 : qp.length = pn := HP.out; omega)
        obtain ⟨kb, hkb⟩ : ∃ b, keepsM S (senseM (entries l) (textsM R l0 k)) (senseM (entries l) qp) = b := ⟨_, rfl⟩
        rw [hkb] at hz9
        have HKB := hid hkb
        have hBd : Below wr.heap.size wr wr.drew := (Below.refl _ _).drew
        clear hkb HM HMF HMD HZ HZ0 HT1 HK8
        cases kb
        · have hz : z = 9 := hz9.symm
          subst hz
          clear hz9
          go_wp2_with fail
          go_region_held3 (fun w' : World => w'.cell? ⟨w.heap.size, 0, none⟩ = some (.slice a1 n1 c1) ∧ w'.cell? ⟨w.heap.size, 1, none⟩ = some (.slice a2 n2 c2) ∧ w'.cell? ⟨w.heap.size, 2, none⟩ = some (.slice a3 n3 c3) ∧ w'.cell? ⟨w.heap.size + 1, 0, none⟩ = some (.slice wa wn wc) ∧ w'.cell? ⟨w.heap.size + 1, 1, none⟩ = some (.int .i64 out) ∧ w'.cell? ⟨w.heap.size + 1, 2, none⟩ = some (.int .i64 win) ∧ w'.cell? ⟨w.heap.size + 2, 0, none⟩ = some (.int .i64 qb) ∧ w'.cell? ⟨w.heap.size + 2, 1, none⟩ = some (.int .i64 qm) ∧ w'.cell? ⟨w.heap.size + 2, 2, none⟩ = some (.int .i64 (l0 : Int)) ∧ w'.cell? ⟨w.heap.size + 2, 3, none⟩ = some (.int .i64 (k : Int)) ∧ w'.cell? ⟨w.heap.size + 2, 4, none⟩ = some (.slice pa pn pc)) (exact ⟨x0, x1, x2, y0, y1, y2, v0, v1, v2, v3, v4⟩) (first | (go_at_call 47; replace HB := hid (below_then HB.out hBd); replace x0 := cell_grown hBd x0; replace x1 := cell_grown hBd x1; replace x2 := cell_grown hBd x2; replace y0 := cell_grown hBd y0; replace y1 := cell_grown hBd y1; replace y2 := cell_grown hBd y2; replace v0 := cell_grown hBd v0; replace v1 := cell_grown hBd v1; replace v2 := cell_grown hBd v2; replace v3 := cell_grown hBd v3; replace v4 := cell_grown hBd v4; replace hLx := hLx.grown hBd; replace hSw := hSw.grown hBd; replace hN := hN.grown hBd; replace hP := hP.grown hBd; refine (olds_any R out win wn wc wa l0 k _ HR.out hwn hN hlk).mono ?_; rintro e wl1 ⟨oa, oc, rfl, hO, hb1⟩; replace HB := hid (below_then HB.out hb1); replace x0 := cell_grown hb1 x0; replace x1 := cell_grown hb1 x1; replace x2 := cell_grown hb1 x2; replace y0 := cell_grown hb1 y0; replace y1 := cell_grown hb1 y1; replace y2 := cell_grown hb1 y2; replace v0 := cell_grown hb1 v0; replace v1 := cell_grown hb1 v1; replace v2 := cell_grown hb1 v2; replace v3 := cell_grown hb1 v3; replace v4 := cell_grown hb1 v4; replace hLx := hLx.grown hb1; replace hSw := hSw.grown hb1; replace hN := hN.grown hb1; replace hP := hP.grown hb1) | (go_at_call_has 25 oa; refine (refSense_any l a1 a2 a3 n1 n2 n3 c1 c2 c3 (textsM R l0 k) k oc oa _ H1.out H2.out H3.out hLx hTL (by omega) hO hTS).mono ?_; rintro e wl2 ⟨va, vc, rfl, hown, hb2⟩; have hMA := marks_of_owns hown; replace HB := hid (below_then HB.out hb2); replace x0 := cell_grown hb2 x0; replace x1 := cell_grown hb2 x1; replace x2 := cell_grown hb2 x2; replace y0 := cell_grown hb2 y0; replace y1 := cell_grown hb2 y1; replace y2 := cell_grown hb2 y2; replace v0 := cell_grown hb2 v0; replace v1 := cell_grown hb2 v1; replace v2 := cell_grown hb2 v2; replace v3 := cell_grown hb2 v3; replace v4 := cell_grown hb2 v4; replace hLx := hLx.grown hb2; replace hSw := hSw.grown hb2; replace hN := hN.grown hb2; replace hP := hP.grown hb2) | (go_at_call_has 25 pa; refine (refSense_any l a1 a2 a3 n1 n2 n3 c1 c2 c3 qp pn pc pa _ H1.out H2.out H3.out hLx HP.out (by omega) hP HPS.out).mono ?_; rintro e wl3 ⟨vb, vd, rfl, hown2, hb3⟩; have hMB := marks_of_owns hown2; replace HB := hid (below_then HB.out hb3); replace x0 := cell_grown hb3 x0; replace x1 := cell_grown hb3 x1; replace x2 := cell_grown hb3 x2; replace y0 := cell_grown hb3 y0; replace y1 := cell_grown hb3 y1; replace y2 := cell_grown hb3 y2; replace v0 := cell_grown hb3 v0; replace v1 := cell_grown hb3 v1; replace v2 := cell_grown hb3 v2; replace v3 := cell_grown hb3 v3; replace v4 := cell_grown hb3 v4; replace hLx := hLx.grown hb3; replace hSw := hSw.grown hb3; replace hN := hN.grown hb3; replace hP := hP.grown hb3; replace hMA := hMA.grown hb3) | (go_at_call 82; refine (becomesAll_any S sn sc sa (senseM (entries l) (textsM R l0 k)) (senseM (entries l) qp) _ _ vc vd va vb _ HS.out hsn hSw rfl HL1.out hMA rfl hMB).mono ?_; rintro e wl4 ⟨he, hb4⟩; rw [HKB.out] at he; subst he; replace HB := hid (below_then HB.out hb4); replace x0 := cell_grown hb4 x0; replace x1 := cell_grown hb4 x1; replace x2 := cell_grown hb4 x2; replace y0 := cell_grown hb4 y0; replace y1 := cell_grown hb4 y1; replace y2 := cell_grown hb4 y2; replace v0 := cell_grown hb4 v0; replace v1 := cell_grown hb4 v1; replace v2 := cell_grown hb4 v2; replace v3 := cell_grown hb4 v3; replace v4 := cell_grown hb4 v4; replace hLx := hLx.grown hb4; replace hSw := hSw.grown hb4; replace hN := hN.grown hb4; replace hP := hP.grown hb4))
          go_wp2
          go_ret
          exact ⟨rfl, HB.out⟩
        · have hz : z = 0 := hz9.symm
          subst hz
          clear hz9
          go_wp2_with fail
          go_region_held3 (fun w' : World => w'.cell? ⟨w.heap.size, 0, none⟩ = some (.slice a1 n1 c1) ∧ w'.cell? ⟨w.heap.size, 1, none⟩ = some (.slice a2 n2 c2) ∧ w'.cell? ⟨w.heap.size, 2, none⟩ = some (.slice a3 n3 c3) ∧ w'.cell? ⟨w.heap.size + 1, 0, none⟩ = some (.slice wa wn wc) ∧ w'.cell? ⟨w.heap.size + 1, 1, none⟩ = some (.int .i64 out) ∧ w'.cell? ⟨w.heap.size + 1, 2, none⟩ = some (.int .i64 win) ∧ w'.cell? ⟨w.heap.size + 2, 0, none⟩ = some (.int .i64 qb) ∧ w'.cell? ⟨w.heap.size + 2, 1, none⟩ = some (.int .i64 qm) ∧ w'.cell? ⟨w.heap.size + 2, 2, none⟩ = some (.int .i64 (l0 : Int)) ∧ w'.cell? ⟨w.heap.size + 2, 3, none⟩ = some (.int .i64 (k : Int)) ∧ w'.cell? ⟨w.heap.size + 2, 4, none⟩ = some (.slice pa pn pc)) (exact ⟨x0, x1, x2, y0, y1, y2, v0, v1, v2, v3, v4⟩) (first | (go_at_call 47; replace HB := hid (below_then HB.out hBd); replace x0 := cell_grown hBd x0; replace x1 := cell_grown hBd x1; replace x2 := cell_grown hBd x2; replace y0 := cell_grown hBd y0; replace y1 := cell_grown hBd y1; replace y2 := cell_grown hBd y2; replace v0 := cell_grown hBd v0; replace v1 := cell_grown hBd v1; replace v2 := cell_grown hBd v2; replace v3 := cell_grown hBd v3; replace v4 := cell_grown hBd v4; replace hLx := hLx.grown hBd; replace hSw := hSw.grown hBd; replace hN := hN.grown hBd; replace hP := hP.grown hBd; refine (olds_any R out win wn wc wa l0 k _ HR.out hwn hN hlk).mono ?_; rintro e wl1 ⟨oa, oc, rfl, hO, hb1⟩; replace HB := hid (below_then HB.out hb1); replace x0 := cell_grown hb1 x0; replace x1 := cell_grown hb1 x1; replace x2 := cell_grown hb1 x2; replace y0 := cell_grown hb1 y0; replace y1 := cell_grown hb1 y1; replace y2 := cell_grown hb1 y2; replace v0 := cell_grown hb1 v0; replace v1 := cell_grown hb1 v1; replace v2 := cell_grown hb1 v2; replace v3 := cell_grown hb1 v3; replace v4 := cell_grown hb1 v4; replace hLx := hLx.grown hb1; replace hSw := hSw.grown hb1; replace hN := hN.grown hb1; replace hP := hP.grown hb1) | (go_at_call_has 25 oa; refine (refSense_any l a1 a2 a3 n1 n2 n3 c1 c2 c3 (textsM R l0 k) k oc oa _ H1.out H2.out H3.out hLx hTL (by omega) hO hTS).mono ?_; rintro e wl2 ⟨va, vc, rfl, hown, hb2⟩; have hMA := marks_of_owns hown; replace HB := hid (below_then HB.out hb2); replace x0 := cell_grown hb2 x0; replace x1 := cell_grown hb2 x1; replace x2 := cell_grown hb2 x2; replace y0 := cell_grown hb2 y0; replace y1 := cell_grown hb2 y1; replace y2 := cell_grown hb2 y2; replace v0 := cell_grown hb2 v0; replace v1 := cell_grown hb2 v1; replace v2 := cell_grown hb2 v2; replace v3 := cell_grown hb2 v3; replace v4 := cell_grown hb2 v4; replace hLx := hLx.grown hb2; replace hSw := hSw.grown hb2; replace hN := hN.grown hb2; replace hP := hP.grown hb2) | (go_at_call_has 25 pa; refine (refSense_any l a1 a2 a3 n1 n2 n3 c1 c2 c3 qp pn pc pa _ H1.out H2.out H3.out hLx HP.out (by omega) hP HPS.out).mono ?_; rintro e wl3 ⟨vb, vd, rfl, hown2, hb3⟩; have hMB := marks_of_owns hown2; replace HB := hid (below_then HB.out hb3); replace x0 := cell_grown hb3 x0; replace x1 := cell_grown hb3 x1; replace x2 := cell_grown hb3 x2; replace y0 := cell_grown hb3 y0; replace y1 := cell_grown hb3 y1; replace y2 := cell_grown hb3 y2; replace v0 := cell_grown hb3 v0; replace v1 := cell_grown hb3 v1; replace v2 := cell_grown hb3 v2; replace v3 := cell_grown hb3 v3; replace v4 := cell_grown hb3 v4; replace hLx := hLx.grown hb3; replace hSw := hSw.grown hb3; replace hN := hN.grown hb3; replace hP := hP.grown hb3; replace hMA := hMA.grown hb3) | (go_at_call 82; refine (becomesAll_any S sn sc sa (senseM (entries l) (textsM R l0 k)) (senseM (entries l) qp) _ _ vc vd va vb _ HS.out hsn hSw rfl HL1.out hMA rfl hMB).mono ?_; rintro e wl4 ⟨he, hb4⟩; rw [HKB.out] at he; subst he; replace HB := hid (below_then HB.out hb4); replace x0 := cell_grown hb4 x0; replace x1 := cell_grown hb4 x1; replace x2 := cell_grown hb4 x2; replace y0 := cell_grown hb4 y0; replace y1 := cell_grown hb4 y1; replace y2 := cell_grown hb4 y2; replace v0 := cell_grown hb4 v0; replace v1 := cell_grown hb4 v1; replace v2 := cell_grown hb4 v2; replace v3 := cell_grown hb4 v3; replace v4 := cell_grown hb4 v4; replace hLx := hLx.grown hb4; replace hSw := hSw.grown hb4; replace hN := hN.grown hb4; replace hP := hP.grown hb4))
          go_wp2
          go_ret
          exact ⟨rfl, HB.out⟩

end Go.Proofs.YtbampfkmgjfofaaGreatDoor
