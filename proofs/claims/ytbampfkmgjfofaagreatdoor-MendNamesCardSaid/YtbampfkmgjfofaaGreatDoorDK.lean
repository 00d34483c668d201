/- Mend: the law MendSame, walked. -/
import Derived.Test.YtbampfkmgjfofaaGreatDoorCJ
import Derived.Test.YtbampfkmgjfofaaGreatDoorDF
import Derived.Test.YtbampfkmgjfofaaGreatDoorDJ
import Derived.Deep.RegionHeld3
import Derived.IntWalk
import Derived.Deep.QuietTactic
import Derived.BigQuiet
namespace Go.Proofs.YtbampfkmgjfofaaGreatDoor
open Go.RowKit

/-- The texts of the first segments, before and behind. -/
def oldsS (G : List Seg) (k : Nat) : List Tx := (G.take k).flatMap (·.1)
def newsS (G : List Seg) (k : Nat) : List Tx := (G.take k).flatMap (·.2.1)

theorem olds_next {G : List Seg} {k : Nat} (hk : k < G.length) : oldsS G (k + 1) = oldsS G k ++ (G.getD k default).1 := by
  unfold oldsS
  rw [take_step default hk, List.flatMap_append]
  simp

theorem news_next {G : List Seg} {k : Nat} (hk : k < G.length) : newsS G (k + 1) = newsS G k ++ (G.getD k default).2.1 := by
  unfold newsS
  rw [take_step default hk, List.flatMap_append]
  simp

theorem flat_bound {α β : Type} {f : α → List β} {c : Nat} : ∀ {L : List α}, (∀ x ∈ L, (f x).length ≤ c) → (L.flatMap f).length ≤ L.length * c
  | [], _ => by simp
  | x :: r, h => by
    have h1 := h x (by simp)
    have h2 := flat_bound (L := r) fun y hy => h y (by simp [hy])
    rw [List.flatMap_cons, List.length_append, List.length_cons, Nat.add_mul]
    omega

theorem segM_mem {R : List (Tx × Int)} {P : Nat → List Tx} : ∀ {Q : List Ask} {s : List Seg × Nat} (K : Seg → Prop), (∀ a b, ∀ g ∈ keepS R a b, K g) → (∀ x ∈ Q, K (segQ R P x)) → (∀ g ∈ s.1, K g) → ∀ g ∈ (Q.foldl (stepS R P) s).1, K g
  | [], _, _, _, _, h => h
  | x :: Q, s, K, h1, h2, h3 => by
    rw [List.foldl_cons]
    refine segM_mem K h1 (fun y hy => h2 y (by simp [hy])) ?_
    unfold stepS
    simp only [List.mem_append, List.mem_singleton]
    rintro g ((hg | hg) | rfl)
    · exact h3 g hg
    · exact h1 _ _ g hg
    · exact h2 x (by simp)

theorem report_fine {l : Lex} {S : List (Int × Int × Int)} {R : List (Tx × Int)} {out win : Int} {L : List Req} (h : hearErr l S R out win L = 0) : reportOk R out win = true := by
  unfold hearErr at h
  split at h
  · split at h
    · rename_i h2
      unfold reportErr at h2
      split at h2
      · assumption
      · cases h2
    · exact absurd h ‹_›
  · exact absurd h ‹_›

/-- Does a swap fit both marks? -/
def matchB (x y : Int × Int) (s : Int × Int × Int) : Bool := decide (x.1 = s.1) && (decide (y.1 = s.1) && (decide (x.2 = s.2.1) && decide (y.2 = s.2.2)))

theorem match_all {S : List (Int × Int × Int)} {x y : Int × Int} (h : mayM S x y = true) : (decide (x = y) || S.any (matchB x y)) = true := by
  unfold mayM hasSwap at h
  rw [Bool.or_eq_true, decide_eq_true_eq, Bool.and_eq_true, decide_eq_true_eq, List.any_eq_true] at h
  rw [Bool.or_eq_true, decide_eq_true_eq, List.any_eq_true]
  rcases h with h | ⟨h1, s, hs, h2⟩
  · exact .inl h
  · rw [decide_eq_true_eq] at h2
    subst h2
    exact .inr ⟨_, hs, by unfold matchB; simp [h1]⟩

theorem match_next {S : List (Int × Int × Int)} {x y : Int × Int} {e : Bool} {t : Nat} (ht : t < S.length) : (e || (S.take (t + 1)).any (matchB x y)) = ((e || (S.take t).any (matchB x y)) || matchB x y (S.getD t (0, 0, 0))) := by
  rw [take_step (0, 0, 0) ht, List.any_append]
  simp [Bool.or_assoc]

/-- Two values of one's own that do not lie in one block. -/
def Apart (v1 v2 : Value) : Prop := ∀ b, v1.ownBlock = some b → v2.ownBlock ≠ some b

theorem Apart.symm {v1 v2 : Value} (h : Apart v1 v2) : Apart v2 v1 := fun b h1 h2 => h b h2 h1

theorem apart_next {W W' : World} {base : Nat} {e : TypeId} {sz : Nat} {v1 v1' v2 : Value} {n : Nat} {xs : List Value} (h2 : W.ownsRow base e sz v2 n xs) (hA : Apart v1 v2) (hg : W.grownBy W' v1.ownBlock) (hat : v1'.ownBlock = v1.ownBlock ∨ v1'.ownBlock = some W.heap.size) :
    W'.ownsRow base e sz v2 n xs ∧ Apart v1' v2 := by
  refine ⟨h2.kept hg ?_, fun b hb h3 => ?_⟩
  · cases hv : v2.ownBlock with
    | none => exact .inl rfl
    | some c => exact .inr fun e => hA c e.symm hv
  · rcases hat with h | h
    · exact hA b (by rw [← h]; exact hb) h3
    · rw [hb] at h
      cases h
      have := (h2.lt _ h3).2
      omega

theorem read_of_heard {l : Lex} {S : List (Int × Int × Int)} {R : List (Tx × Int)} {out win : Int} {L : List Req} (h : hearErr l S R out win L = 0) : readErr l S = 0 := by
  unfold hearErr at h
  split at h
  · assumption
  · exact h

/-- What is known of each new text. -/
theorem segM_texts {l : Lex} {S : List (Int × Int × Int)} {R : List (Tx × Int)} {out win : Int} {L : List Req} {Q : List Ask} (h : PlaceOk l S R out win L Q) (hr : reportOk R out win = true) :
    ∀ g ∈ segM R (putM L) Q, g.1.length ≤ 80 ∧ g.2.1.length ≤ 80 ∧ g.1.all textOk = true ∧ g.2.1.all textOk = true := by
  obtain ⟨r1, r2, -, -⟩ := report_ok hr
  have hT : ∀ a b, (textsM R a b).length ≤ 80 ∧ (textsM R a b).all textOk = true := fun a b => by
    refine ⟨?_, ?_⟩
    · unfold textsM
      rw [List.length_map, List.length_take, List.length_drop]
      omega
    · rw [List.all_eq_true]
      intro t ht
      obtain ⟨n, hn, rfl⟩ := textsM_mem ht
      exact r2 n hn
  have hK : ∀ a b, ∀ g ∈ keepS R a b, g.1.length ≤ 80 ∧ g.2.1.length ≤ 80 ∧ g.1.all textOk = true ∧ g.2.1.all textOk = true := fun a b g hg => by
    unfold keepS at hg
    split at hg
    · rw [List.mem_singleton] at hg
      subst hg
      exact ⟨(hT _ _).1, (hT _ _).1, (hT _ _).2, (hT _ _).2⟩
    · cases hg
  intro g hg
  unfold segM at hg
  rcases List.mem_append.1 hg with hg | hg
  · refine segM_mem (R := R) (P := putM L) _ hK (fun x hx => ?_) (fun g hg => by cases hg) g hg
    obtain ⟨-, -, -, h4⟩ := h.mem x hx
    have hz := alone_zero h4
    have z1 := malformed_not (hz 1 (by omega))
    unfold segQ
    refine ⟨(hT _ _).1, ?_, (hT _ _).2, ?_⟩
    · show (L.getD x.i default).put.length ≤ 80
      omega
    · rw [List.all_eq_true]
      exact z1.2
  · exact hK _ _ g hg

set_option maxRecDepth 100000 in
set_option maxHeartbeats 8000000 in
theorem mendSame_any (l : Lex) (a1 a2 a3 : Option Addr) (n1 n2 n3 c1 c2 c3 : Nat) (S : List (Int × Int × Int)) (sa : Option Addr) (sn sc : Nat) (R : List (Tx × Int)) (out win : Int) (wa : Option Addr) (wn wc : Nat) (L : List Req) (ra : Option Addr) (rn rc : Nat) (w : World)
    (h1 : l.nums.length = n1) (h2 : l.names.length = n2) (h3 : l.nots.length = n3) (hLx : LexAt w a1 a2 a3 l) (hs : S.length = sn) (hSw : SwapsAt w sa S) (hR : R.length = wn) (hwn : wn ≤ maxLen) (hN : Nums w wa R) (hL : L.length = rn) (hrn : rn ≤ maxLen) (hQ : ReqsAt w ra L) (hqI : ∀ q ∈ L, ReqI q) (hstd : Std w) :
    Calls Tryz.prog 8 #[.agg #[.slice a1 n1 c1, .slice a2 n2 c2, .slice a3 n3 c3], .slice sa sn sc, .agg #[.slice wa wn wc, .int .i64 out, .int .i64 win], .slice ra rn rc] w fun e w' => e = .returned (.bool true) ∧ Below w.heap.size w w' := by
  have H1 := hid h1; have H2 := hid h2; have H3 := hid h3; have HS := hid hs; have HR := hid hR; have HL := hid hL; have HWN := hid hwn; have HRN := hid hrn; have HQI := hid hqI
  clear h1 h2 h3 hs hR hL hwn hrn hqI
  obtain ⟨W0, hW0⟩ : ∃ W, W = (w.alloc (.cells #[.slice a1 n1 c1, .slice a2 n2 c2, .slice a3 n3 c3] 26)).alloc (.cells #[.slice wa wn wc, .int .i64 out, .int .i64 win] 56) := ⟨_, rfl⟩
  have hB0 : Below w.heap.size w W0 := by rw [hW0]; exact ((Below.refl _ w).alloc (Nat.le_refl _) _).alloc (by simp) _
  have x0 : W0.cell? ⟨w.heap.size, 0, none⟩ = some (.slice a1 n1 c1) := by rw [hW0]; simp [go_sem]
  have x1 : W0.cell? ⟨w.heap.size, 1, none⟩ = some (.slice a2 n2 c2) := by rw [hW0]; simp [go_sem]
  have x2 : W0.cell? ⟨w.heap.size, 2, none⟩ = some (.slice a3 n3 c3) := by rw [hW0]; simp [go_sem]
  have y0 : W0.cell? ⟨w.heap.size + 1, 0, none⟩ = some (.slice wa wn wc) := by rw [hW0]; simp [go_sem]
  have y1 : W0.cell? ⟨w.heap.size + 1, 1, none⟩ = some (.int .i64 out) := by rw [hW0]; simp [go_sem]
  have y2 : W0.cell? ⟨w.heap.size + 1, 2, none⟩ = some (.int .i64 win) := by rw [hW0]; simp [go_sem]
  replace hLx := hLx.grown hB0
  replace hSw := hSw.grown hB0
  replace hN := hN.grown hB0
  replace hQ := hQ.grown hB0
  replace hstd := hstd.grown hB0
  have HB := hid hB0
  clear hB0
  go_enter Tryz.func8, Tryz.ntmps8
  go_wp2_with fail
  rw [← hW0]
  clear hW0
  refine (ready_any l a1 a2 a3 n1 n2 n3 c1 c2 c3 S sa sn sc R out win wa wn wc L ra rn rc W0 H1.out H2.out H3.out hLx HS.out hSw HR.out HWN.out hN HL.out HRN.out hQ).mono ?_
  rintro e w1 ⟨rfl, hb⟩
  replace HB := hid (below_then HB.out hb)
  replace x0 := cell_grown hb x0
  replace x1 := cell_grown hb x1
  replace x2 := cell_grown hb x2
  replace y0 := cell_grown hb y0
  replace y1 := cell_grown hb y1
  replace y2 := cell_grown hb y2
  replace hLx := hLx.grown hb
  replace hSw := hSw.grown hb
  replace hN := hN.grown hb
  replace hQ := hQ.grown hb
  replace hstd := hstd.grown hb
  clear hb
  cases ht : readyM l S R out win L
  · clear ht
    go_wp2_with fail
    refine (awake_any w1 hstd).mono ?_
    rintro e wz ⟨rfl, hb⟩
    go_wp2
    go_ret
    exact ⟨rfl, below_then HB.out hb⟩
  obtain ⟨hT, hs25, hF, hE0⟩ := ready_ok ht
  have HT := hid hT
  have HF := hid hF
  have HE0 := hid hE0
  rw [HS.out] at hs25
  clear ht hT hF hE0
  obtain ⟨q1, q2, q3⟩ := thin_sizes HT.out H1.out H2.out H3.out
  have qw : wn ≤ 85 := by have := HF.out.n; rw [HR.out] at this; exact this
  have qr : rn ≤ 25 := by have := HF.out.m; rw [HL.out] at this; exact this
  have hBd : Below w1.heap.size w1 w1.drew := (Below.refl _ _).drew
  go_wp2_with fail
  go_region_held3 (fun w' : World => w'.cell? ⟨w.heap.size, 0, none⟩ = some (.slice a1 n1 c1) ∧ w'.cell? ⟨w.heap.size, 1, none⟩ = some (.slice a2 n2 c2) ∧ w'.cell? ⟨w.heap.size, 2, none⟩ = some (.slice a3 n3 c3) ∧ w'.cell? ⟨w.heap.size + 1, 0, none⟩ = some (.slice wa wn wc) ∧ w'.cell? ⟨w.heap.size + 1, 1, none⟩ = some (.int .i64 out) ∧ w'.cell? ⟨w.heap.size + 1, 2, none⟩ = some (.int .i64 win)) (exact ⟨x0, x1, x2, y0, y1, y2⟩) (first | (go_at_call 19; replace HB := hid (below_then HB.out hBd); replace x0 := cell_grown hBd x0; replace x1 := cell_grown hBd x1; replace x2 := cell_grown hBd x2; replace y0 := cell_grown hBd y0; replace y1 := cell_grown hBd y1; replace y2 := cell_grown hBd y2; replace hLx := hLx.grown hBd; replace hSw := hSw.grown hBd; replace hN := hN.grown hBd; replace hQ := hQ.grown hBd; replace hstd := hstd.grown hBd; refine (lexicon_any l a1 a2 a3 n1 n2 n3 c1 c2 c3 _ H1.out H2.out H3.out q1 q2 q3 (fun N hN => by have := HT.out.m2 N hN; omega) hLx).mono ?_; rintro e wl1 ⟨b1, b2, b3, d1, d2, d3, rfl, hl3, hb1⟩; replace HB := hid (below_then HB.out hb1); replace x0 := cell_grown hb1 x0; replace x1 := cell_grown hb1 x1; replace x2 := cell_grown hb1 x2; replace y0 := cell_grown hb1 y0; replace y1 := cell_grown hb1 y1; replace y2 := cell_grown hb1 y2; replace hLx := hLx.grown hb1; replace hSw := hSw.grown hb1; replace hN := hN.grown hb1; replace hQ := hQ.grown hb1; replace hstd := hstd.grown hb1) | (go_at_call 27; refine (swaps_any S sn sc sa _ HS.out (by omega) hSw).mono ?_; rintro e wl2 ⟨ta, tc, rfl, hT5, hb2⟩; replace HB := hid (below_then HB.out hb2); replace x0 := cell_grown hb2 x0; replace x1 := cell_grown hb2 x1; replace x2 := cell_grown hb2 x2; replace y0 := cell_grown hb2 y0; replace y1 := cell_grown hb2 y1; replace y2 := cell_grown hb2 y2; replace hLx := hLx.grown hb2; replace hSw := hSw.grown hb2; replace hN := hN.grown hb2; replace hQ := hQ.grown hb2; replace hstd := hstd.grown hb2; replace hl3 := hl3.grown hb2) | (go_at_call 32; refine (report_any R out win wn wc wa _ HR.out (by omega) hN).mono ?_; rintro e wl3 ⟨pa, pc, rfl, hpc, hN6, hb3⟩; replace HB := hid (below_then HB.out hb3); replace x0 := cell_grown hb3 x0; replace x1 := cell_grown hb3 x1; replace x2 := cell_grown hb3 x2; replace y0 := cell_grown hb3 y0; replace y1 := cell_grown hb3 y1; replace y2 := cell_grown hb3 y2; replace hLx := hLx.grown hb3; replace hSw := hSw.grown hb3; replace hN := hN.grown hb3; replace hQ := hQ.grown hb3; replace hstd := hstd.grown hb3; replace hl3 := hl3.grown hb3; replace hT5 := hT5.grown hb3) | (go_at_call 34; refine (requests_any L rn rc ra _ HL.out (by omega) hQ HF.out.p).mono ?_; rintro e wl4 ⟨ka, kc, rfl, hQ7, hb4⟩; replace HB := hid (below_then HB.out hb4); replace x0 := cell_grown hb4 x0; replace x1 := cell_grown hb4 x1; replace x2 := cell_grown hb4 x2; replace y0 := cell_grown hb4 y0; replace y1 := cell_grown hb4 y1; replace y2 := cell_grown hb4 y2; replace hLx := hLx.grown hb4; replace hSw := hSw.grown hb4; replace hN := hN.grown hb4; replace hQ := hQ.grown hb4; replace hstd := hstd.grown hb4; replace hl3 := hl3.grown hb4; replace hT5 := hT5.grown hb4; replace hN6 := hN6.grown hb4) | (go_at_call 38; refine (versionsF_any l b1 b2 b3 n1 n2 n3 d1 d2 d3 S ta sn tc R pa wn pc out win L ka rn kc _ H1.out H2.out H3.out hl3 HS.out (by unfold maxLen; omega) hT5 HR.out HWN.out hpc hN6 HL.out hQ7 (fun q hq => (HQI.out q hq).2.2.2) hstd).mono ?_; rintro e wl5 ⟨hb5, he⟩; rw [if_pos HE0.out] at he; obtain ⟨sg, sgn, sgc, Q, rfl, hPO, hSL, hSG⟩ := he; replace HB := hid (below_then HB.out hb5); replace x0 := cell_grown hb5 x0; replace x1 := cell_grown hb5 x1; replace x2 := cell_grown hb5 x2; replace y0 := cell_grown hb5 y0; replace y1 := cell_grown hb5 y1; replace y2 := cell_grown hb5 y2; replace hLx := hLx.grown hb5; replace hSw := hSw.grown hb5; replace hN := hN.grown hb5; replace hQ := hQ.grown hb5; replace hstd := hstd.grown hb5))
  clear hb1 hb2 hb3 hb4 hb5 hl3 hT5 hN6 hQ7 hBd y0 y1 y2
  have htx := segM_texts hPO (report_fine HE0.out)
  have holds := segM_olds (R := R) (P := putM L) hPO.flow
  have hkeep := segM_keeps (E := entries l) (S := S) (R := R) (P := putM L) hPO.flow (fun x hx => (alone_fit (hPO.mem x hx).2.2.2).2.2.2.2.2)
  have hsg := segM_length (R := R) (P := putM L) (Q := Q)
  have hQf := hPO.few
  rw [HL.out] at hQf
  have hrn20 : rn ≤ 20 := by have := (heard_small HE0.out).2; rw [HL.out] at this; exact this
  have hR80 : R.length ≤ 80 := (heard_small HE0.out).1
  have hsgn : sgn ≤ 41 := by omega
  have hsg2 : sgn ≤ 2 * rn + 1 := by omega
  generalize hGG : segM R (putM L) Q = G at hSG hSL htx holds hkeep
  have hlex := (lex_of_read (read_of_heard HE0.out)).1
  have HLE := hid hlex
  have HTX := hid htx
  have HOL := hid holds
  have HKP := hid hkeep
  have HSL := hid hSL
  clear hPO hGG htx holds hkeep hSL hsg hQf hlex
  obtain ⟨Wv, hWv⟩ : ∃ W, W = wl5 := ⟨_, rfl⟩
  rw [← hWv] at x0 x1 x2 hLx hSw hN hQ hSG hstd HB ⊢
  clear hWv hN hQ
  have g1 : decide (2 * (rn : Int) + 1 < (sgn : Int)) = false := by rw [decide_eq_false_iff_not]; omega
  have hw1 : IntKind.i64.wrap (2 * (rn : Int)) = 2 * (rn : Int) := by rw [IntKind.wrap_i64]; omega
  have hw2 : IntKind.i64.wrap (2 * (rn : Int) + 1) = 2 * (rn : Int) + 1 := by rw [IntKind.wrap_i64]; omega
  obtain ⟨i9, hi9, hz0, hz1, hz2⟩ := info_parts Tryz.info9
  go_wp2_with fail
  have hclr := g1
  clear hclr g1 hw1 hw2
  go_loopw [11, 12, 13] (fun a b i wr => ∃ (k : Nat) (va vb : Value), k ≤ sgn ∧ i = .int .i64 k ∧ a = va ∧ b = vb ∧ Hid (wr.ownsRow Wv.heap.size 9 1 va (oldsS G k).length (flatV strC (oldsS G k))) ∧ Hid (wr.ownsRow Wv.heap.size 9 1 vb (newsS G k).length (flatV strC (newsS G k))) ∧ Hid (Apart va vb) ∧ Below Wv.heap.size Wv wr) (fun _ _ i _ => sgn - (intOf i).toNat)
  case atStart => exact ⟨0, _, _, Nat.zero_le _, rfl, rfl, rfl, hid (World.ownsRow_nil _ _ _ _), hid (World.ownsRow_nil _ _ _ _), hid (fun b h => by simp [Value.ownBlock] at h), Below.refl _ _⟩
  case round =>
    obtain ⟨k, va, vb, hk, rfl, rfl, rfl, HOA, HOB, HNE, hBr⟩ := hrel
    have hz := hBr.size
    by_cases hlt : k < sgn
    · have hlt' : (k : Int) < (sgn : Int) := by omega
      have k0 : (0 : Int) ≤ (k : Int) := by omega
      have hkG : k < G.length := by rw [HSL.out]; exact hlt
      obtain ⟨gb, goff, ai, ci, bi, di, hg, c0, c1, -, s0, s1⟩ := hSG k hkG
      have hon := olds_next hkG
      have hnn := news_next hkG
      have hbO : (oldsS G k).length ≤ 41 * 80 := by
        have h := flat_bound (f := fun g : Seg => g.1) (c := 80) (L := G.take k) fun g hg => (HTX.out g (List.mem_of_mem_take hg)).1
        have h2 := List.length_take_le k G
        unfold oldsS
        have h3 : (G.take k).length * 80 ≤ 41 * 80 := Nat.mul_le_mul_right _ (by omega)
        omega
      have hbN : (newsS G k).length ≤ 41 * 80 := by
        have h := flat_bound (f := fun g : Seg => g.2.1) (c := 80) (L := G.take k) fun g hg => (HTX.out g (List.mem_of_mem_take hg)).2.1
        have h2 := List.length_take_le k G
        unfold newsS
        have h3 : (G.take k).length * 80 ≤ 41 * 80 := Nat.mul_le_mul_right _ (by omega)
        omega
      have hmem : G.getD k default ∈ G := by rw [List.getD_eq_getElem?_getD, List.getElem?_eq_getElem hkG, Option.getD_some]; exact List.getElem_mem _
      obtain ⟨t1, t2, -, -⟩ := HTX.out _ hmem
      generalize G.getD k default = sgm at c0 c1 s0 s1 hon hnn t1 t2
      obtain ⟨so, sw, sr⟩ := sgm
      simp only at c0 c1 s0 s1 hon hnn t1 t2
      obtain ⟨on, hone⟩ : ∃ n, so.length = n := ⟨_, rfl⟩
      obtain ⟨nn, hnne⟩ : ∃ n, sw.length = n := ⟨_, rfl⟩
      rw [hone] at c0 t1
      rw [hnne] at c1 t2
      obtain ⟨lo, hlo⟩ : ∃ n, (oldsS G k).length = n := ⟨_, rfl⟩
      obtain ⟨ln, hln⟩ : ∃ n, (newsS G k).length = n := ⟨_, rfl⟩
      rw [hlo] at HOA hbO
      rw [hln] at HOB hbN
      have HLO := hid hlo
      have HLN := hid hln
      have HON := hid hone
      have HNN := hid hnne
      have HO1 := hid hon
      have HN1 := hid hnn
      have HS0 := hid s0
      have HS1 := hid s1
      subst hg
      have C0 := hid c0
      have C1 := hid c1
      replace c0 := cell_grown hBr c0
      replace c1 := cell_grown hBr c1
      have gq0 := lt_of_cell c0
      have hBc : Below Wv.heap.size Wv wr.drew := hBr.drew
      have hBd : Below wr.heap.size wr wr.drew := (Below.refl _ _).drew
      replace HOA := hid (owns_below hBd HOA.out)
      replace HOB := hid (owns_below hBd HOB.out)
      clear hBd
      have h63a : lo + on ≤ 1000000 := by omega
      have h63b : ln + nn ≤ 1000000 := by omega
      have HBR := hid hBr
      clear hon hnn hone hnne hlo hln s0 s1 hmem hkG hBr
      go_wp2_with fail
      go_region_held3 (fun w' : World => w'.cell? ⟨gb, goff + k * 3, none⟩ = some (.slice ai on ci) ∧ w'.cell? ⟨gb, goff + k * 3 + 1, none⟩ = some (.slice bi nn di)) (first | exact ⟨cell_grown hBc C0.out, cell_grown hBc C1.out⟩)
        (first
          | (refine step_append_strs rfl _ _ 24 rfl Wv.heap.size i9 Tryz.underlying24 hi9 hz0 hz1 hz2 _ lo _ rfl HOA.out ai on ci so rfl HON.out (HS0.out.grown hBc) h63a hBc.size ?_
             intro va2 wq hown' hgrow hat
             have hBn : Below Wv.heap.size Wv wq := Below.grown hBc hgrow hBc.size (fun j hj => (HOA.out.lt j hj).1)
             have hnx := apart_next HOB.out HNE.out hgrow hat
             replace HOA := hid hown'
             replace HOB := hid hnx.1
             replace HNE := hid hnx.2
             replace c0 := cell_grown hBn C0.out
             replace c1 := cell_grown hBn C1.out
             clear hBc hgrow hat hnx hown'
             have hBc := hBn
             clear hBn)
          | (refine step_append_strs rfl _ _ 24 rfl Wv.heap.size i9 Tryz.underlying24 hi9 hz0 hz1 hz2 _ ln _ rfl HOB.out bi nn di sw rfl HNN.out (HS1.out.grown hBc) h63b hBc.size ?_
             intro vb2 wq hown' hgrow hat
             have hBn : Below Wv.heap.size Wv wq := Below.grown hBc hgrow hBc.size (fun j hj => (HOB.out.lt j hj).1)
             have hnx := apart_next HOA.out HNE.out.symm hgrow hat
             replace HOB := hid hown'
             replace HOA := hid hnx.1
             replace HNE := hid hnx.2.symm
             replace c0 := cell_grown hBn C0.out
             replace c1 := cell_grown hBn C1.out
             clear hBc hgrow hat hnx hown'
             have hBc := hBn
             clear hBn))
      all_goals
        go_wp2
        go_roundw
        case rel => exact ⟨k + 1, va2, vb2, by omega, by go_num, rfl, rfl, hid (by rw [HO1.out, List.length_append, HLO.out, HON.out, flatV_append]; exact HOA.out), hid (by rw [HN1.out, List.length_append, HLN.out, HNN.out, flatV_append]; exact HOB.out), HNE, hBc⟩
        case measure => simp [intOf]; omega
    · have hkn : k = sgn := by omega
      subst hkn
      have hAll : G.take k = G := List.take_of_length_le (by rw [HSL.out]; exact Nat.le_refl _)
      have hOA := HOA.out
      have hOB := HOB.out
      have hbO := flat_bound (f := fun g : Seg => g.1) (c := 80) (L := G) fun g hg => (HTX.out g hg).1
      have hbN := flat_bound (f := fun g : Seg => g.2.1) (c := 80) (L := G) fun g hg => (HTX.out g hg).2.1
      have hwl : (oldsS G k).length = wn := by
        unfold oldsS
        rw [hAll, HOL.out, List.length_map]
        exact HR.out
      have hkp := HKP.out
      have htO : (oldsS G k).all textOk = true := by
        rw [List.all_eq_true]
        intro t ht
        unfold oldsS at ht
        rw [hAll] at ht
        obtain ⟨g, hg, ht⟩ := List.mem_flatMap.1 ht
        exact (List.all_eq_true.1 (HTX.out g hg).2.2.1) t ht
      have htN : (newsS G k).all textOk = true := by
        rw [List.all_eq_true]
        intro t ht
        unfold newsS at ht
        rw [hAll] at ht
        obtain ⟨g, hg, ht⟩ := List.mem_flatMap.1 ht
        exact (List.all_eq_true.1 (HTX.out g hg).2.2.2) t ht
      have hnl : (newsS G k).length ≤ 4000 := by
        unfold newsS
        rw [hAll]
        have h3 : G.length * 80 ≤ 41 * 80 := Nat.mul_le_mul_right _ (by rw [HSL.out]; omega)
        omega
      rw [← (by unfold oldsS; rw [hAll] : oldsS G k = G.flatMap (·.1)), ← (by unfold newsS; rw [hAll] : newsS G k = G.flatMap (·.2.1))] at hkp
      have hol : (oldsS G k).length ≤ 4000 := by omega
      have hw85 := qw
      generalize oldsS G k = XO at hOA hwl hkp htO hol
      generalize newsS G k = XN at hOB hkp htN hnl
      obtain ⟨oa, oc, rfl⟩ := owns_shape hOA
      obtain ⟨na, nc, rfl⟩ := owns_shape hOB
      have hro := owns_room hOA
      have hrn := owns_room hOB
      have hsO := strs_of_ownsN hOA rfl
      have hsN := strs_of_ownsN hOB rfl
      obtain ⟨lo, hlo⟩ : ∃ n, XO.length = n := ⟨_, rfl⟩
      obtain ⟨ln, hln⟩ : ∃ n, XN.length = n := ⟨_, rfl⟩
      rw [hlo] at hro hol ⊢
      rw [hln] at hrn hnl ⊢
      have HLO := hid hlo
      have HLN := hid hln
      have HKP2 := hid hkp
      have HTO := hid htO
      have HTN := hid htN
      have HBQ := hid (below_then HB.out hBr)
      have hLw := hLx.grown hBr
      have hSw2 := hSw.grown hBr
      have hSd := hstd.grown hBr
      replace x0 := cell_grown hBr x0
      replace x1 := cell_grown hBr x1
      replace x2 := cell_grown hBr x2
      clear HOA HOB HNE hOA hOB hbO hbN hwl hkp htO htN hAll hlo hln hLx hSw hstd hSG hBr
      obtain ⟨Wq, hWq⟩ : ∃ W, W = wr := ⟨_, rfl⟩
      rw [← hWq] at x0 x1 x2 hLw hSw2 hSd hsO hsN HBQ hz ⊢
      clear hWq
      go_wp2_with fail
      refine (row_any l a1 a2 a3 n1 n2 n3 c1 c2 c3 XO lo oc oa Wq H1.out H2.out H3.out hLw q1 q2 q3 (fun N hN => by have := HT.out.m2 N hN; omega) HLE.out HLO.out hol hro hsO HTO.out hSd).mono ?_
      rintro e w5 ⟨ma, mc, rfl, hMA, hb⟩
      replace HBQ := hid (below_then HBQ.out hb)
      replace x0 := cell_grown hb x0
      replace x1 := cell_grown hb x1
      replace x2 := cell_grown hb x2
      replace hLw := hLw.grown hb
      replace hSw2 := hSw2.grown hb
      replace hSd := hSd.grown hb
      replace hsN := hsN.grown hb
      clear hb hsO
      go_wp2_with fail
      refine (row_any l a1 a2 a3 n1 n2 n3 c1 c2 c3 XN ln nc na w5 H1.out H2.out H3.out hLw q1 q2 q3 (fun N hN => by have := HT.out.m2 N hN; omega) HLE.out HLN.out hnl hrn hsN HTN.out hSd).mono ?_
      rintro e w6 ⟨pa, pc, rfl, hMB, hb⟩
      replace HBQ := hid (below_then HBQ.out hb)
      replace hSw2 := hSw2.grown hb
      replace hSd := hSd.grown hb
      replace hMA := hMA.grown hb
      clear hb hsN hLw x0 x1 x2
      have hkq := HKP2.out
      have hmb1 := senseM_length (entries l) XO
      have hmb2 := senseM_length (entries l) XN
      rw [HLO.out] at hmb1
      rw [HLN.out] at hmb2
      generalize senseM (entries l) XO = MA at hMA hkq hmb1
      generalize senseM (entries l) XN = MB at hMB hkq hmb2
      have hle : MA.length = MB.length ∧ ∀ i, i < MA.length → mayM S (MA.getD i (0, 0)) (MB.getD i (0, 0)) = true := by
        unfold keepsM at hkq
        rw [Bool.and_eq_true, decide_eq_true_eq, allN_of] at hkq
        exact hkq
      obtain ⟨m, hm⟩ : ∃ n, MA.length = n := ⟨_, rfl⟩
      have hmb : MB.length = m := by rw [← hle.1]; exact hm
      rw [hm] at hmb1
      have HM := hid hm
      have HMB := hid hmb
      have HMAY : Hid (∀ i, i < m → mayM S (MA.getD i (0, 0)) (MB.getD i (0, 0)) = true) := hid (by rw [← hm]; exact hle.2)
      rw [hm, hmb]
      clear hkq hle hm hmb hmb2 HKP2
      obtain ⟨Wm, hWm⟩ : ∃ W, W = w6 := ⟨_, rfl⟩
      rw [← hWm] at hMA hMB hSw2 hSd HBQ ⊢
      clear hWm
      go_wp2_with fail
      go_loopw [18] (fun i wr => ∃ j : Nat, j ≤ m ∧ i = .int .i64 j ∧ Below Wm.heap.size Wm wr) (fun i _ => m - (intOf i).toNat)
      case atStart => exact ⟨0, Nat.zero_le _, rfl, Below.refl _ _⟩
      case round =>
        obtain ⟨j, hj, rfl, hBr⟩ := hrel
        by_cases hlt2 : j < m
        · have hlt2' : (j : Int) < (m : Int) := by omega
          have j0 : (0 : Int) ≤ (j : Int) := by omega
          obtain ⟨b1, of1, e, d0, d1⟩ := (hMA.grown hBr) j (by rw [HM.out]; exact hlt2)
          subst e
          obtain ⟨b2, of2, e, f0, f1⟩ := (hMB.grown hBr) j (by rw [HMB.out]; exact hlt2)
          subst e
          have hmay := HMAY.out j hlt2
          generalize MA.getD j (0, 0) = x at d0 d1 hmay
          generalize MB.getD j (0, 0) = y at f0 f1 hmay
          have hme := fun W => mark_eql x y W
          obtain ⟨xk, xv⟩ := x
          obtain ⟨yk, yv⟩ := y
          simp only at d0 d1 f0 f1 hme
          obtain ⟨eb, heb⟩ : ∃ z, decide ((xk, xv) = (yk, yv)) = z := ⟨_, rfl⟩
          rw [heb] at hme
          have HEB := hid heb
          have HMAY2 := hid hmay
          have gd := lt_of_cell d0
          have gf := lt_of_cell f0
          clear heb hmay
          go_wp2_with fail
          go_quiet (fail)
          go_wp2_with fail
          go_loopw [19, 20] (fun b i wi => ∃ t : Nat, t ≤ sn ∧ i = .int .i64 t ∧ b = .bool (eb || (S.take t).any (matchB (xk, xv) (yk, yv))) ∧ Below wr.heap.size wr wi) (fun _ i _ => sn - (intOf i).toNat)
          case atStart => exact ⟨0, Nat.zero_le _, rfl, by simp, below_drewN (Below.refl _ _) _⟩
          case round =>
            obtain ⟨t, ht, rfl, rfl, hBi⟩ := hrel
            have hzi := hBi.size
            by_cases hlt3 : t < sn
            · have hlt3' : (t : Int) < (sn : Int) := by omega
              have t0 : (0 : Int) ≤ (t : Int) := by omega
              have htS : t < S.length := by rw [HS.out]; exact hlt3
              have hnx := match_next (x := (xk, xv)) (y := (yk, yv)) (e := eb) htS
              obtain ⟨b3, of3, e, s0, s1, s2⟩ := ((hSw2.grown hBr).grown hBi) t htS
              subst e
              generalize S.getD t (0, 0, 0) = s at s0 s1 s2 hnx
              obtain ⟨sk, so, sw⟩ := s
              simp only at s0 s1 s2
              obtain ⟨bv, hbv⟩ : ∃ z, (eb || (S.take t).any (matchB (xk, xv) (yk, yv))) = z := ⟨_, rfl⟩
              rw [hbv] at hnx ⊢
              have HNX := hid hnx
              have p0 := cell_grown hBi d0
              have p1 := cell_grown hBi d1
              have r0 := cell_grown hBi f0
              have r1 := cell_grown hBi f1
              have gp := lt_of_cell p0
              have gr := lt_of_cell r0
              have gs := lt_of_cell s0
              clear hnx hbv htS
              cases bv
              case true =>
                have HMT : Hid (∀ z : Bool, (true || z) = true) := hid (fun z => rfl)
                go_wp2_with fail
                go_quiet (fail)
                go_wp2
                go_roundw
                case rel => exact ⟨t + 1, by omega, by go_num, by rw [HNX.out, HMT.out], below_drewN (hBi.alloc hzi _) _⟩
                case measure => simp [intOf]; omega
              by_cases e1 : xk = sk
              · have ge1 : (xk == sk) = true := by simpa using e1
                by_cases e2 : yk = sk
                · have ge2 : (yk == sk) = true := by simpa using e2
                  by_cases e3 : xv = so
                  · have ge3 : (xv == so) = true := by simpa using e3
                    by_cases e4 : yv = sw
                    · have ge4 : (yv == sw) = true := by simpa using e4
                      have HMT : Hid (matchB (xk, xv) (yk, yv) (sk, so, sw) = true) := hid (by unfold matchB; simp [*])
                      clear e1 e2 e3 e4
                      go_wp2_with fail
                      go_quiet (fail)
                      go_wp2
                      go_roundw
                      case rel => exact ⟨t + 1, by omega, by go_num, by rw [HNX.out, HMT.out]; rfl, below_drewN (hBi.alloc hzi _) _⟩
                      case measure => simp [intOf]; omega
                    · have ge4 : (yv == sw) = false := by simpa using e4
                      have HMT : Hid (matchB (xk, xv) (yk, yv) (sk, so, sw) = false) := hid (by unfold matchB; simp [e4])
                      clear e1 e2 e3 e4
                      go_wp2_with fail
                      go_quiet (fail)
                      go_wp2
                      go_roundw
                      case rel => exact ⟨t + 1, by omega, by go_num, by rw [HNX.out, HMT.out]; rfl, below_drewN (hBi.alloc hzi _) _⟩
                      case measure => simp [intOf]; omega
                  · have ge3 : (xv == so) = false := by simpa using e3
                    have HMT : Hid (matchB (xk, xv) (yk, yv) (sk, so, sw) = false) := hid (by unfold matchB; simp [e3])
                    clear e1 e2 e3
                    go_wp2_with fail
                    go_quiet (fail)
                    go_wp2
                    go_roundw
                    case rel => exact ⟨t + 1, by omega, by go_num, by rw [HNX.out, HMT.out]; rfl, below_drewN (hBi.alloc hzi _) _⟩
                    case measure => simp [intOf]; omega
                · have ge2 : (yk == sk) = false := by simpa using e2
                  have HMT : Hid (matchB (xk, xv) (yk, yv) (sk, so, sw) = false) := hid (by unfold matchB; simp [e2])
                  clear e1 e2
                  go_wp2_with fail
                  go_quiet (fail)
                  go_wp2
                  go_roundw
                  case rel => exact ⟨t + 1, by omega, by go_num, by rw [HNX.out, HMT.out]; rfl, below_drewN (hBi.alloc hzi _) _⟩
                  case measure => simp [intOf]; omega
              · have ge1 : (xk == sk) = false := by simpa using e1
                have HMT : Hid (matchB (xk, xv) (yk, yv) (sk, so, sw) = false) := hid (by unfold matchB; simp [e1])
                clear e1
                go_wp2_with fail
                go_quiet (fail)
                go_wp2
                go_roundw
                case rel => exact ⟨t + 1, by omega, by go_num, by rw [HNX.out, HMT.out]; rfl, below_drewN (hBi.alloc hzi _) _⟩
                case measure => simp [intOf]; omega
            · have htn : t = sn := by omega
              subst htn
              have hfull : S.take t = S := List.take_of_length_le (by rw [HS.out]; exact Nat.le_refl _)
              have hfin : (eb || (S.take t).any (matchB (xk, xv) (yk, yv))) = true := by rw [hfull, ← HEB.out]; exact match_all HMAY2.out
              rw [hfin]
              clear hfull hfin
              go_wp2
              go_roundw
              case rel => exact ⟨j + 1, by omega, by go_num, below_then hBr hBi⟩
              case measure => simp [intOf]; omega
        · have hjm : j = m := by omega
          subst hjm
          go_wp2_with fail
          refine (awake_any _ (hSd.grown hBr)).mono ?_
          rintro e wz ⟨rfl, hb⟩
          go_wp2
          go_ret
          exact ⟨rfl, below_then (below_then HBQ.out hBr) hb⟩

end Go.Proofs.YtbampfkmgjfofaaGreatDoor
