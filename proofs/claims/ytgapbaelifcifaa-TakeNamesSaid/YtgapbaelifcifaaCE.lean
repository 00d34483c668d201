/- Contracts of the law's spans, ints. Contract of the law's chamber: the chapter's example. Contract of the law's awake. -/
import Derived.Test.YtgapbaelifcifaaD
import Derived.Test.YtgapbaelifcifaaY
import Derived.Deep.QuietTactic
import Derived.BigQuiet
import Derived.Test.YtgapbaelifcifaaCB
namespace Go.Proofs.Ytgapbaelifcifaa
open Go.RowKit

theorem eq_of_getD {α : Type} {d : α} {X Y : List α} (hl : X.length = Y.length) (h : ∀ j, j < X.length → X.getD j d = Y.getD j d) : X = Y := by
  apply List.ext_getElem hl
  intro i h1 h2
  have := h i h1
  rw [List.getD_eq_getElem?_getD, List.getD_eq_getElem?_getD, List.getElem?_eq_getElem h1, List.getElem?_eq_getElem h2] at this
  simpa using this

set_option maxRecDepth 100000 in
set_option maxHeartbeats 1000000 in
theorem ints_any (X Y : List Int) (n m c1 c2 : Nat) (a b : Option Addr) (w : World) (hX : X.length = n) (hY : Y.length = m) (hn : n ≤ maxLen) (hm : m ≤ maxLen) (hIX : Ints w a X) (hIY : Ints w b Y) :
    Calls Try.prog 34 #[.slice a n c1, .slice b m c2] w fun e w' => e = .returned (.bool (decide (X = Y))) ∧ Below w.heap.size w w' := by
  have hn' := hn
  have hm' := hm
  unfold maxLen at hn' hm'
  have HX := hid hX
  have HY := hid hY
  clear hX hY
  by_cases hnm : n = m
  · subst hnm
    go_enter Try.func34, Try.ntmps34
    go_wp2
    go_loopw [5] (fun i wr => ∃ k : Nat, k ≤ n ∧ i = .int .i64 k ∧ Hid (∀ j, j < k → X.getD j 0 = Y.getD j 0) ∧ ∃ q, wr = w.drewN q) (fun i _ => n - (intOf i).toNat)
    case atStart => exact ⟨0, Nat.zero_le _, rfl, fun _ h => by omega, 0, rfl⟩
    case round =>
      obtain ⟨k, hk, rfl, hj, q, rfl⟩ := hrel
      by_cases hlt : k < n
      · obtain ⟨bx, ox, rfl, e1⟩ := hIX k (by rw [HX.out]; exact hlt)
        obtain ⟨by', oy, rfl, e2⟩ := hIY k (by rw [HY.out]; exact hlt)
        have hkk : (k : Int) < n := by omega
        have HC : Hid (X.getD k 0 = X.getD k 0) := rfl
        obtain ⟨x, hx⟩ : ∃ x, X.getD k 0 = x := ⟨_, rfl⟩
        obtain ⟨y, hy⟩ : ∃ y, Y.getD k 0 = y := ⟨_, rfl⟩
        rw [hx] at e1
        rw [hy] at e2
        have HXY := hid (And.intro hx hy)
        have gb1 := lt_of_cell e1
        have gb2 := lt_of_cell e2
        clear hx hy HC
        by_cases hxy : x = y
        · subst hxy
          go_wp2_with fail
          go_quiet (fail)
          go_wp2
          go_roundw
          case rel => exact ⟨k + 1, by omega, by go_num, fun j hjj => by by_cases e : j = k; · rw [e, HXY.out.1, HXY.out.2]
                                                                         · exact hj.out j (by omega), _, rfl⟩
          case measure => simp [intOf]; omega
        · have hne := hxy
          go_wp2_with fail
          go_quiet (fail)
          go_wp2
          go_ret
          exact ⟨by rw [decide_eq_false (fun e => hne (by rw [← HXY.out.1, ← HXY.out.2, e]))]; rfl, below_drewN (below_drewN (Below.refl _ _) _) _⟩
      · go_wp2
        go_ret
        exact ⟨by rw [decide_eq_true (eq_of_getD (by rw [HX.out, HY.out]) (fun j hjj => hj.out j (by rw [HX.out] at hjj; omega)))]; rfl, below_drewN (Below.refl _ _) _⟩
  · go_enter Try.func34, Try.ntmps34
    go_wp2
    go_ret
    exact ⟨by rw [decide_eq_false (fun e => hnm (by rw [← HX.out, ← HY.out, e]))]; rfl, Below.refl _ _⟩

set_option maxRecDepth 100000 in
set_option maxHeartbeats 1000000 in
theorem spans_any (X Y : List (Int × Int)) (n m c1 c2 : Nat) (a b : Option Addr) (w : World) (hX : X.length = n) (hY : Y.length = m) (hn : n ≤ maxLen) (hm : m ≤ maxLen) (hIX : Spans w a X) (hIY : Spans w b Y) :
    Calls Try.prog 26 #[.slice a n c1, .slice b m c2] w fun e w' => e = .returned (.bool (decide (X = Y))) ∧ Below w.heap.size w w' := by
  have hn' := hn
  have hm' := hm
  unfold maxLen at hn' hm'
  have HX := hid hX
  have HY := hid hY
  clear hX hY
  by_cases hnm : n = m
  · subst hnm
    go_enter Try.func26, Try.ntmps26
    go_wp2
    go_loopw [5] (fun i wr => ∃ k : Nat, k ≤ n ∧ i = .int .i64 k ∧ Hid (∀ j, j < k → X.getD j (0, 0) = Y.getD j (0, 0)) ∧ ∃ q, wr = w.drewN q) (fun i _ => n - (intOf i).toNat)
    case atStart => exact ⟨0, Nat.zero_le _, rfl, fun _ h => by omega, 0, rfl⟩
    case round =>
      obtain ⟨k, hk, rfl, hj, q, rfl⟩ := hrel
      by_cases hlt : k < n
      · obtain ⟨bx, ox, rfl, e1, f1⟩ := hIX k (by rw [HX.out]; exact hlt)
        obtain ⟨by', oy, rfl, e2, f2⟩ := hIY k (by rw [HY.out]; exact hlt)
        have hkk : (k : Int) < n := by omega
        obtain ⟨x, hx⟩ : ∃ x, X.getD k (0, 0) = x := ⟨_, rfl⟩
        obtain ⟨y, hy⟩ : ∃ y, Y.getD k (0, 0) = y := ⟨_, rfl⟩
        rw [hx] at e1 f1
        rw [hy] at e2 f2
        have HXY := hid (And.intro hx hy)
        obtain ⟨x1, x2⟩ := x
        obtain ⟨y1, y2⟩ := y
        simp only at e1 e2 f1 f2
        have gb1 := lt_of_cell e1
        have gb2 := lt_of_cell e2
        clear hx hy
        by_cases hx1 : x1 = y1
        · subst hx1
          by_cases hx2 : x2 = y2
          · subst hx2
            go_wp2_with fail
            go_quiet (fail)
            go_wp2
            go_roundw
            case rel => exact ⟨k + 1, by omega, by go_num, fun j hjj => by by_cases e : j = k; · rw [e, HXY.out.1, HXY.out.2]
                                                                           · exact hj.out j (by omega), _, rfl⟩
            case measure => simp [intOf]; omega
          · go_wp2_with fail
            go_quiet (fail)
            go_wp2
            go_ret
            exact ⟨by rw [decide_eq_false (fun e => hx2 (by have := HXY.out.1.symm.trans ((by rw [e] : X.getD k (0, 0) = Y.getD k (0, 0)).trans HXY.out.2); simpa using this))]; rfl, below_drewN (below_drewN (Below.refl _ _) _) _⟩
        · go_wp2_with fail
          go_quiet (fail)
          go_wp2
          go_ret
          exact ⟨by rw [decide_eq_false (fun e => hx1 (by have := HXY.out.1.symm.trans ((by rw [e] : X.getD k (0, 0) = Y.getD k (0, 0)).trans HXY.out.2); simp at this; exact this.1))]; rfl, below_drewN (below_drewN (Below.refl _ _) _) _⟩
      · go_wp2
        go_ret
        exact ⟨by rw [decide_eq_true (eq_of_getD (by rw [HX.out, HY.out]) (fun j hjj => hj.out j (by rw [HX.out] at hjj; omega)))]; rfl, below_drewN (Below.refl _ _) _⟩
  · go_enter Try.func26, Try.ntmps26
    go_wp2
    go_ret
    exact ⟨by rw [decide_eq_false (fun e => hnm (by rw [← HX.out, ← HY.out, e]))]; rfl, Below.refl _ _⟩


end Go.Proofs.Ytgapbaelifcifaa

namespace Go.Proofs.Ytgapbaelifcifaa
open Go.RowKit

set_option maxRecDepth 100000 in
set_option maxHeartbeats 1000000 in
theorem chamber_any (w : World) :
    Calls Try.prog 46 #[] w fun e w' => ∃ pa pc ca cc, e = .returned (.tuple #[.agg #[.int .i64 1000, .slice pa 1 pc, .int .i64 180, .int .i64 60], .agg #[.slice ca 3 cc, .int .i64 400, .int .i64 30]]) ∧ Spans w' pa [(400, 500)] ∧ Crew w' ca [(0, 1, 60), (1, 2, 0), (0, 1, 300)] ∧ Below w.heap.size w w' := by
  go_enter Try.func46, Try.ntmps46
  go_wp2_with fail
  refine bodyPost_ret (v := .tuple #[.agg #[.int .i64 1000, .slice (some ⟨w.heap.size + 1 + 1, 0, none⟩) 1 1, .int .i64 180, .int .i64 60], .agg #[.slice (some ⟨w.heap.size + 1 + 1 + 1, 0, none⟩) 3 3, .int .i64 400, .int .i64 30]]) (by simp [results, Try.f46, go_sem]) rfl ⟨_, _, _, _, rfl, ?_, ?_, ?_⟩
  · intro i hi
    match i, hi with
    | 0, _ => exact ⟨_, 0, rfl, by simp [go_sem], by simp [go_sem]⟩
  · intro i hi
    match i, hi with
    | 0, _ => exact ⟨_, 0, rfl, by simp [go_sem], by simp [go_sem], by simp [go_sem]⟩
    | 1, _ => exact ⟨_, 0, rfl, by simp [go_sem], by simp [go_sem], by simp [go_sem]⟩
    | 2, _ => exact ⟨_, 0, rfl, by simp [go_sem], by simp [go_sem], by simp [go_sem]⟩
  · exact ((((Below.refl _ w).alloc (Nat.le_refl _) _).alloc (by simp) _).alloc (by simp; omega) _).alloc (by simp; omega) _

theorem exTakes : takesOf 1000 180 60 [(400, 500)] = [(0, 180), (180, 400), (500, 680), (680, 860), (860, 1000)] := by decide +kernel

theorem exSit : sitOk 1000 180 60 [(400, 500)] = true := by decide +kernel

theorem exOff : offOk 400 30 [(0, 1, 60), (1, 2, 0), (0, 1, 300)] = true := by decide +kernel

/-- The path of a rota, as a test. -/
def How.pathB (p : How) : List Nat → Nat → List Nat → Bool
  | [], _, _ => true
  | r :: rs, k, H => decide (k < p.tn) && (decide (r < p.cn) && (p.may k r (decide (H.getD r 0 ≤ k)) && How.pathB p rs (k + 1) (H.set r (p.ag k r))))

theorem How.pathB_iff (p : How) : ∀ (rs : List Nat) (k : Nat) (H : List Nat), p.pathB rs k H = true ↔ p.path rs k H := by
  intro rs
  induction rs with
  | nil => intro k H; simp [How.pathB, How.path]
  | cons r rs ih => intro k H; simp [How.pathB, How.path, ih]

def lexB : List Nat → List Nat → Bool
  | [], _ => true
  | _ :: _, [] => false
  | a :: xs, b :: bs => decide (a < b) || (decide (a = b) && lexB xs bs)

theorem lexB_iff : ∀ xs bs : List Nat, lexB xs bs = true ↔ lexLe xs bs := by
  intro xs
  induction xs with
  | nil => intro bs; simp [lexB, lexLe]
  | cons a xs ih => intro bs; cases bs <;> simp [lexB, lexLe, ih]

theorem lexLe_antisymm : ∀ xs bs : List Nat, xs.length = bs.length → lexLe xs bs → lexLe bs xs → xs = bs := by
  intro xs
  induction xs with
  | nil => intro bs h _ _; cases bs with
    | nil => rfl
    | cons _ _ => simp at h
  | cons a xs ih =>
    intro bs h h1 h2
    cases bs with
    | nil => simp at h
    | cons b bs =>
      simp only [lexLe] at h1 h2
      rcases h1 with h1 | ⟨rfl, h1⟩
      · rcases h2 with h2 | ⟨rfl, _⟩ <;> omega
      · rcases h2 with h2 | ⟨_, h2⟩
        · omega
        · rw [ih bs (by simpa using h) h1 h2]

def exHow : How := howOf 400 30 [(0, 1, 60), (1, 2, 0), (0, 1, 300)] [(0, 180), (180, 400), (500, 680), (680, 860), (860, 1000)]

theorem exPath : exHow.path [1, 0, 2, 1, 0] 0 [0, 0, 0, 0, 0] := by
  rw [← How.pathB_iff]
  decide +kernel

theorem exLeast : ∀ a b c d e : Fin 3, exHow.pathB [a.1, b.1, c.1, d.1, e.1] 0 [0, 0, 0, 0, 0] = true → lexB [1, 0, 2, 1, 0] [a.1, b.1, c.1, d.1, e.1] = true := by decide +kernel

theorem exBest (R : List Nat) (h : exHow.best R 0 [0, 0, 0, 0, 0]) : R = [1, 0, 2, 1, 0] := by
  obtain ⟨h1, h2, h3⟩ := h
  have hl := h3 _ exPath rfl
  have h5 : R.length = 5 := by have : exHow.tn = 5 := rfl; omega
  match R, h5 with
  | [a, b, c, d, e], _ =>
    have hp := h1
    simp only [How.path] at h1
    have hc : exHow.cn = 3 := rfl
    obtain ⟨-, ha, -, -, hb, -, -, hcc, -, -, hd, -, -, he, -, -⟩ := h1
    rw [hc] at ha hb hcc hd he
    have := exLeast ⟨a, ha⟩ ⟨b, hb⟩ ⟨c, hcc⟩ ⟨d, hd⟩ ⟨e, he⟩ ((How.pathB_iff _ _ _ _).2 hp)
    exact lexLe_antisymm _ _ rfl hl ((lexB_iff _ _).1 this)

theorem exDead (rc : Nat) (h : exHow.dead rc 0 [0, 0, 0, 0, 0]) : False := by
  have := (h _ exPath).1
  have h5 : exHow.tn = 5 := rfl
  simp [h5] at this

end Go.Proofs.Ytgapbaelifcifaa

namespace Go.Proofs.Ytgapbaelifcifaa
open Go.RowKit

theorem exServe : serveErr 1000 180 60 400 30 [(400, 500)] [(0, 1, 60), (1, 2, 0), (0, 1, 300)] = 0 := by decide +kernel

set_option maxRecDepth 100000 in
set_option maxHeartbeats 1000000 in
theorem awake_any (w : World) : Calls Try.prog 16 #[] w fun e w' => e = .returned (.bool true) ∧ Below w.heap.size w w' := by
  go_enter Try.func16, Try.ntmps16
  go_wp2_with fail
  refine (chamber_any w).mono ?_
  rintro e w1 ⟨pa, pc, ca, cc, rfl, hS, hC, hb1⟩
  have z1 := hb1.size
  go_wp2_with fail
  obtain ⟨W1, hW1⟩ : ∃ W1, W1 = (w1.alloc (.cells #[.int .i64 1000, .slice pa 1 pc, .int .i64 180, .int .i64 60] 34)).alloc (.cells #[.slice ca 3 cc, .int .i64 400, .int .i64 30] 39) := ⟨_, rfl⟩
  have hB1 : Below w1.heap.size w1 W1 := by rw [hW1]; exact ((Below.refl _ _).alloc (Nat.le_refl _) _).alloc (by simp) _
  have c0 : W1.cell? ⟨w1.heap.size, 0, none⟩ = some (.int .i64 1000) := by rw [hW1]; simp [go_sem]
  have c1 : W1.cell? ⟨w1.heap.size, 1, none⟩ = some (.slice pa 1 pc) := by rw [hW1]; simp [go_sem]
  have c2 : W1.cell? ⟨w1.heap.size, 2, none⟩ = some (.int .i64 180) := by rw [hW1]; simp [go_sem]
  have c3 : W1.cell? ⟨w1.heap.size, 3, none⟩ = some (.int .i64 60) := by rw [hW1]; simp [go_sem]
  have d0 : W1.cell? ⟨w1.heap.size + 1, 0, none⟩ = some (.slice ca 3 cc) := by rw [hW1]; simp [go_sem]
  have d1 : W1.cell? ⟨w1.heap.size + 1, 1, none⟩ = some (.int .i64 400) := by rw [hW1]; simp [go_sem]
  have d2 : W1.cell? ⟨w1.heap.size + 1, 2, none⟩ = some (.int .i64 30) := by rw [hW1]; simp [go_sem]
  rw [← hW1]
  have hBw := hb1.trans (hB1.mono z1)
  have zW := hB1.size
  have hS1 := hS.grown hB1
  have hC1 := hC.grown hB1
  clear hW1 hS hC hB1 hb1
  refine (takes_any [(400, 500)] 1000 180 60 1 pc pa W1 rfl (by decide) hS1).mono ?_
  intro e w2 h
  rcases cutPost_cases h with ⟨h1, _⟩ | ⟨_, h2, _⟩ | ⟨ta, tc, n, hn, _, _, hb2, rfl, hT, _⟩
  · rw [exSit] at h1; simp at h1
  · rw [exTakes] at h2; simp at h2
  · rw [exTakes] at hn hT
    simp only [List.length_cons, List.length_nil] at hn
    subst hn
    clear h
    have e0 := cell_grown hb2 c0
    have e1 := cell_grown hb2 c1
    have e2 := cell_grown hb2 c2
    have e3 := cell_grown hb2 c3
    have f0 := cell_grown hb2 d0
    have f1 := cell_grown hb2 d1
    have f2 := cell_grown hb2 d2
    have z2 := hb2.size
    have hBw2 := hBw.trans (hb2.mono (by omega))
    have hS2 := hS1.grown hb2
    have hC2 := hC1.grown hb2
    clear c0 c1 c2 c3 d0 d1 d2 hS1 hC1 hb2 hBw
    go_wp2_with fail
    refine (rota_any [(400, 500)] 1000 180 60 400 30 [(0, 1, 60), (1, 2, 0), (0, 1, 300)] 1 pc 3 cc pa ca w2 rfl (by decide) hS2 rfl (by decide) hC2).mono ?_
    rintro e w3 ⟨hb3, hR⟩
    rw [exServe, exTakes] at hR
    rcases hR with ⟨h0, _⟩ | ⟨_, _, ⟨ra, rcap, R, rfl, hI, hbest⟩ | ⟨_, rc, _, hd⟩⟩
    · exact absurd rfl h0
    · have := exBest R hbest
      subst this
      have hT3 := hT.grown hb3
      have z3 := hb3.size
      have hBw3 := hBw2.trans (hb3.mono (by omega))
      have zz := hBw3.size
      clear hbest hT hb3 hBw2 hC2 hS2
      go_wp2_with fail
      have hA : ∀ o, Below w3.heap.size w3 (w3.alloc o) := fun o => (Below.refl _ _).alloc (Nat.le_refl _) o
      refine (spans_any [(0, 180), (180, 400), (500, 680), (680, 860), (860, 1000)] [(0, 180), (180, 400), (500, 680), (680, 860), (860, 1000)] 5 5 tc 5 ta (some ⟨w3.heap.size, 0, none⟩) _ rfl rfl (by decide) (by decide) (hT3.grown (hA _)) ?_).mono ?_
      · intro i hi
        match i, hi with
        | 0, _ => exact ⟨_, 0, rfl, by simp [go_sem], by simp [go_sem]⟩
        | 1, _ => exact ⟨_, 0, rfl, by simp [go_sem], by simp [go_sem]⟩
        | 2, _ => exact ⟨_, 0, rfl, by simp [go_sem], by simp [go_sem]⟩
        | 3, _ => exact ⟨_, 0, rfl, by simp [go_sem], by simp [go_sem]⟩
        | 4, _ => exact ⟨_, 0, rfl, by simp [go_sem], by simp [go_sem]⟩
      · rintro e w4 ⟨rfl, hb4⟩
        have hI4 := (hI.grown (hA _)).grown hb4
        have z4 := hb4.size
        have hBw4 := (hBw3.trans ((hA _).mono zz)).trans (hb4.mono (by simp; omega))
        have zz4 := hBw4.size
        clear hb4 hI hT3 hA hBw3
        rw [decide_eq_true rfl]
        go_wp2_with fail
        have hA : ∀ o, Below w4.heap.size w4 (w4.alloc o) := fun o => (Below.refl _ _).alloc (Nat.le_refl _) o
        refine (ints_any [1, 0, 2, 1, 0] [1, 0, 2, 1, 0] 5 5 rcap 5 ra (some ⟨w4.heap.size, 0, none⟩) _ rfl rfl (by decide) (by decide) (hI4.grown (hA _)) ?_).mono ?_
        · intro i hi
          match i, hi with
          | 0, _ => exact ⟨_, 0, rfl, by simp [go_sem]⟩
          | 1, _ => exact ⟨_, 0, rfl, by simp [go_sem]⟩
          | 2, _ => exact ⟨_, 0, rfl, by simp [go_sem]⟩
          | 3, _ => exact ⟨_, 0, rfl, by simp [go_sem]⟩
          | 4, _ => exact ⟨_, 0, rfl, by simp [go_sem]⟩
        · rintro e w5 ⟨rfl, hb5⟩
          rw [decide_eq_true rfl]
          go_wp2
          go_ret
          exact ⟨rfl, (hBw4.trans ((hA _).mono zz4)).trans (hb5.mono (by simp; omega))⟩
    · exact (exDead rc hd).elim

end Go.Proofs.Ytgapbaelifcifaa
