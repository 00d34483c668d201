/- Mend: the walk of decide. Mend: what the questions say of a request in memory. -/
import Derived.Test.YtbampfkmgjfofaaGreatDoorBD
import Derived.WalkMore
import Derived.Laws.EntriesVeiled
import Derived.Deep.AppendLies
namespace Go.Proofs.YtbampfkmgjfofaaGreatDoor
open Go.RowKit

set_option maxRecDepth 100000 in
set_option maxHeartbeats 4000000 in
theorem decide_any (W0 : World) (hb base : Nat) (C : Hc) (alone : Ask → Int) (T : List Ask) (n cap : Nat) (ta : Option Addr) (Z : Nat → Nat → Bool)
    (hear : W0.rowIs hb 130 7 (hearF C (.slice none 0 0))) (row : W0.rowIs C.ab 30 C.n (fun _ => .int .i64 0)) (hne : hb ≠ C.ab)
    (hT : T.length = n) (hn : n ≤ 20) (hTi : ∀ x ∈ T, x.i < C.n) (hTs : AsksAt base W0 ta T) (hbase : hb < base ∧ C.ab < base)
    (hq : ∀ k, k < n → Asked W0 hb C alone (T.getD k default) (Z k)) :
    Calls Tryz.prog 79 #[.pointer (some ⟨hb, 0, none⟩), .slice ta n cap] W0 fun e w' => e = .returned (.tuple #[]) ∧
      ∃ W1 va, Below W0.heap.size W0 W1 ∧ Dec W1 hb C (runA alone T).1 va (runA alone T).2 w' := by
  have HT := hid hT
  clear hT
  have hlh := hear.lt
  have hla := row.lt
  obtain ⟨W1, hW1⟩ : ∃ W, W = W0.alloc (.cells (questF hb) 185) := ⟨_, rfl⟩
  have hB1 : Below W0.heap.size W0 W1 := by rw [hW1]; exact below_alloc W0 _
  have z1 : W1.heap.size = W0.heap.size + 1 := by rw [hW1]; simp
  have hqc : Hid (∀ k, k < 6 → W1.cell? ⟨W0.heap.size, k * 2, none⟩ = some (.func (.func (112 + k)) #[.pointer (some ⟨hb, 0, none⟩)] #[]) ∧ W1.cell? ⟨W0.heap.size, k * 2 + 1, none⟩ = some (.int .i64 (codeN k))) := hid (fun k hk => by rw [hW1]; exact quest_cells W0 hb 185 k hk)
  have hd0 : Dec W1 hb C (fun _ => 0) (.slice none 0 0) [] W1 :=
    ⟨rfl, rfl, rfl, Nat.le_refl _, fun _ _ _ _ => rfl, hear.of_block (hB1.block _ hlh), row.of_block (hB1.block _ hla), World.ownsRow_nil _ _ _ _⟩
  have hTs1 := hTs.grown hB1
  clear hear row hTs
  unfold questF at hW1
  go_enter Tryz.func79, Tryz.ntmps79
  go_step3
  go_wp2_with fail
  rw [← hW1]
  clear hW1
  go_step3
  go_wp2_with fail
  go_loopw [30] (fun i wr => ∃ (k : Nat) (va : Value), k ≤ n ∧ i = .int .i64 k ∧ Dec W1 hb C (runA alone (T.take k)).1 va (runA alone (T.take k)).2 wr ∧ Hid ((runA alone (T.take k)).2.length ≤ k ∧ ∀ y ∈ (runA alone (T.take k)).2, I64 (y.f + y.c))) (fun i _ => n - (intOf i).toNat)
  case atStart => exact ⟨0, _, Nat.zero_le _, rfl, hd0, hid ⟨Nat.zero_le _, fun y hy => by simp [runA] at hy⟩⟩
  case round =>
    clear hd0
    obtain ⟨k, va, hk, rfl, hd, HV⟩ := hrel
    by_cases hlt : k < n
    · have hkT : k < T.length := by rw [HT.out]; exact hlt
      obtain ⟨g, off, hg, rfl, e0, e1, e2, e3, e4, e5⟩ := (hTs1.ofDec hd hbase.1 hbase.2) k hkT
      have hst := runA_take (alone := alone) hkT
      have hxn : (T.getD k default).i < C.n := hTi _ (by rw [List.getD_eq_getElem?_getD, List.getElem?_eq_getElem hkT, Option.getD_some]; exact List.getElem_mem _)
      have hqk := hq k hlt
      generalize T.getD k default = x at e0 e1 e2 e3 e4 e5 hst hxn hqk
      have HST := hid hst
      have HQ := hid hqk
      clear hst hqk
      obtain ⟨A, hA⟩ : ∃ A, A = (runA alone (T.take k)).1 := ⟨_, rfl⟩
      obtain ⟨V, hV⟩ : ∃ V, V = (runA alone (T.take k)).2 := ⟨_, rfl⟩
      rw [← hA, ← hV] at hd
      rw [← hV] at HV
      have HAV := hid (⟨hA, hV⟩ : A = (runA alone (T.take k)).1 ∧ V = (runA alone (T.take k)).2)
      clear hA hV
      have gb := lt_of_cell e0
      obtain ⟨Wx, hWx⟩ : ∃ W, W = wr.alloc (.cells #[.int .i64 x.b, .int .i64 x.m, .int .i64 x.f, .int .i64 x.c, .slice x.pa x.pn x.pc, .int .i64 (x.i : Int)] 162) := ⟨_, rfl⟩
      have hdx : Dec W1 hb C A va V Wx := hd.over (by rw [hWx]; exact below_alloc wr _)
      have hax : AskAt Wx wr.heap.size x := by rw [hWx]; exact AskAt.new wr x
      have hzw := hd.size
      clear hd
      go_wp2_with fail
      rw [← hWx]
      clear hWx e0 e1 e2 e3 e4 e5
      obtain ⟨xk, hxk⟩ : ∃ b, wr.heap.size = b := ⟨_, rfl⟩
      rw [hxk] at hax ⊢
      clear hxk hzw gb
      clear wr
      go_loopw [36] (fun i wi => ∃ j : Nat, j ≤ 6 ∧ i = .int .i64 j ∧ Hid (∀ m, m < j → allZ (Z k) V x m = false) ∧ Below Wx.heap.size Wx wi) (fun i _ => 6 - (intOf i).toNat)
      case atStart => exact ⟨0, by omega, rfl, hid (fun m hm => by omega), Below.refl _ _⟩
      case round =>
        obtain ⟨j, hj, rfl, HF, hBi⟩ := hrel
        have hdi := hdx.over hBi
        have hai := hax.grown hBi
        by_cases hlj : j < 6
        · have hlj' : (j : Int) < 6 := by omega
          obtain ⟨q0, q1⟩ := hqc.out j hlj
          replace q0 := hdi.cell (by omega) (by omega) q0
          replace q1 := hdi.cell (by omega) (by omega) q1
          have ql := lt_of_cell q0
          have ef := quest_enters j hlj
          obtain ⟨fj, hfj⟩ : ∃ f, 112 + j = f := ⟨_, rfl⟩
          obtain ⟨cj, hcj⟩ : ∃ c, codeN j = c := ⟨_, rfl⟩
          rw [hfj] at q0 ef
          rw [hcj] at q1
          obtain ⟨Wq, hWq⟩ : ∃ W, W = wr.alloc (.cells #[.func (.func fj) #[.pointer (some ⟨hb, 0, none⟩)] #[], .int .i64 cj] 185) := ⟨_, rfl⟩
          have hBq : Below wr.heap.size wr Wq := by rw [hWq]; exact below_alloc wr _
          have hdq := hdi.over hBq
          have haq := hai.grown hBq
          have hcall := allZ_call HQ.out hB1 (by have := HV.out.1; omega) HV.out.2 hlj HF.out hdq
          rw [hfj] at hcall
          have bq1 : Wq.cell? ⟨wr.heap.size, 1, none⟩ = some (.int .i64 cj) := by rw [hWq]; simp [go_sem]
          have k0 := hai.c0; have k1 := hai.c1; have k2 := hai.c2; have k3 := hai.c3; have k4 := hai.c4; have k5 := hai.c5
          have kl := hai.lt
          have HCJ := hid hcj
          clear hfj hcj
          unfold askV at hcall
          cases hz : allZ (Z k) V x j
          · rw [hz] at hcall
            have HZ := hid hz
            clear hz
            go_wp2_with fail
            rw [← hWq]
            clear hWq
            refine hcall.mono ?_
            rintro e w' ⟨rfl, hb'⟩
            go_wp2
            go_roundw
            case rel => exact ⟨j + 1, by omega, by go_num, hid (fun m hm => by
              by_cases e : m = j
              · subst e; exact HZ.out
              · exact HF.out m (by omega)), below_then (below_then hBi hBq) hb'⟩
            case measure => simp [intOf]; omega
          · rw [hz] at hcall
            have HVD := hid (verdict_of HQ.out hlj HF.out hz)
            clear hz
            go_wp2_with fail
            rw [← hWq]
            clear hWq
            refine hcall.mono ?_
            rintro e w' ⟨rfl, hb'⟩
            have hdw := hdq.over hb'
            have haw := haq.grown hb'
            have p1 := cell_grown hb' bq1
            have p5 := haw.c5
            have p6 : w'.cell? ⟨hb, 6, none⟩ = some (.slice (some ⟨C.ab, 0, none⟩) C.n C.n) := hdw.hear.cell (i := 6) (by omega)
            have l1 := lt_of_cell p1
            have l5 := lt_of_cell p5
            have l6 := lt_of_cell p6
            have pa := hdw.row.cell hxn
            have pf := hdw.row.frozen x.i
            have la := hdw.row.lt
            clear k0 k1 k2 k3 k4 k5 kl q0 q1 ql bq1 hai haq hdq hdi hcall hBq
            go_wp2_with fail
            go_region
            all_goals
              go_wp2
              go_roundw
              case rel =>
                refine ⟨k + 1, va, by omega, by go_num, ?_, ?_⟩
                · rw [HST.out, stepA, ← HAV.out.1, ← HAV.out.2, HVD.out.1, if_neg HVD.out.2, HCJ.out]
                  exact (hdw.over (below_drewN (Below.refl _ _) _)).answer hne (by omega) x.i cj
                · rw [HST.out, stepA, ← HAV.out.2, HVD.out.1, if_neg HVD.out.2]
                  exact hid ⟨by have := HV.out.1; simp only; omega, HV.out.2⟩
              case measure => simp [intOf]; omega
        · have hj6 : j = 6 := by omega
          have hlj' : ¬ (j : Int) < 6 := by omega
          have hok := verdict_ok HQ.out (V := V) (fun m hm => HF.out m (by omega))
          have HOK := hid hok
          clear hok hj6
          have hd2 : Dec W1 hb C A va V wr.drew := hdi.over (Below.refl _ _).drew
          have p5 : wr.cell? ⟨hb, 5, none⟩ = some va := hdi.hear.cell (i := 5) (by omega)
          have l5 := lt_of_cell p5
          have k0 := hai.c0; have k1 := hai.c1; have k2 := hai.c2; have k3 := hai.c3; have k4 := hai.c4; have k5 := hai.c5
          have kl := hai.lt
          have hVl : V.length ≤ 20 := by have := HV.out.1; omega
          have hzr := hdi.size
          have hown := hdi.own
          have hstep : ∀ w3 : World, (wr.drew.alloc (askO x)).grownBy w3 va.ownBlock → w3.cell? ⟨hb, 5, none⟩ = some va ∧ w3.frozen? ⟨hb, 5, none⟩ = false ∧ hb < w3.heap.size := by
            intro w3 hgrow
            have hB3 : Below W1.heap.size wr.drew w3 := below_of_grown (Below.refl _ _) hd2.own hgrow hd2.size
            have hlb : hb < W1.heap.size := by omega
            exact ⟨cell_below hB3 hlb p5, (hB3.frozen (p := ⟨hb, 5, none⟩) hlb).trans (hdi.hear.frozen 5), by have := hB3.size; have := hd2.size; omega⟩
          obtain ⟨i0, hi, hz0, hz1, hz2⟩ := info_parts Tryz.info162
          have hnew : ∀ jj u, [(.int .i64 x.b : Value), .int .i64 x.m, .int .i64 x.f, .int .i64 x.c, .slice x.pa x.pn x.pc, .int .i64 (x.i : Int)][jj]? = some u → (wr.drew.alloc (.cells #[.int .i64 x.b, .int .i64 x.m, .int .i64 x.f, .int .i64 x.c, .slice x.pa x.pn x.pc, .int .i64 (x.i : Int)] 162)).cell? ((⟨wr.heap.size, 0, none⟩ : Addr).add jj) = some u :=
            cells_new wr.drew #[.int .i64 x.b, .int .i64 x.m, .int .i64 x.f, .int .i64 x.c, .slice x.pa x.pn x.pc, .int .i64 (x.i : Int)] 162
          have HN := hid hnew
          clear hnew hai
          unfold askO at hstep
          go_wp2_with fail
          go_region_law (refine step_append_lies _ rfl _ _ 128 rfl W1.heap.size 162 i0 (.agg #[.int .i64 0, .int .i64 0, .int .i64 0, .int .i64 0, .slice none 0 0, .int .i64 0]) 6 64 Tryz.underlying128 hi hz0 hz1 hz2 rfl (by decide) _ V.length _ rfl (hown.alloc (.cells #[.int .i64 x.b, .int .i64 x.m, .int .i64 x.f, .int .i64 x.c, .slice x.pa x.pn x.pc, .int .i64 (x.i : Int)] 162)) ⟨wr.heap.size, 0, none⟩ 1 1 [.int .i64 x.b, .int .i64 x.m, .int .i64 x.f, .int .i64 x.c, .slice x.pa x.pn x.pc, .int .i64 (x.i : Int)] rfl rfl HN.out (fun y hy => by simp at hy; rcases hy with rfl | rfl | rfl | rfl | rfl | rfl <;> rfl) (by omega) (by unfold maxLen; omega) (by omega) (by simp; omega) (wr.heap.size + 1) (by simp) ?_; intro g cp w3 hown' hgrow hat hlt'; obtain ⟨s5, f5, sl⟩ := hstep w3 hgrow; have HG : Hid ((wr.drew.alloc (.cells #[.int .i64 x.b, .int .i64 x.m, .int .i64 x.f, .int .i64 x.c, .slice x.pa x.pn x.pc, .int .i64 (x.i : Int)] 162)).grownBy w3 va.ownBlock) := hid hgrow; clear hgrow hat)
          all_goals
            go_wp2
            go_roundw
            case rel =>
              refine ⟨k + 1, .slice (some ⟨g, 0, none⟩) (V.length + 1) cp, by omega, by go_num, ?_, ?_⟩
              · rw [HST.out, stepA, ← HAV.out.1, ← HAV.out.2, if_pos HOK.out.1]
                exact hd2.accept hne (by omega) (by omega) HG.out (by rw [List.length_append, flatV_snoc]; exact hown')
              · rw [HST.out, stepA, ← HAV.out.2, if_pos HOK.out.1]
                refine hid ⟨by have := HV.out.1; simp only [List.length_append, List.length_singleton]; omega, fun y hy => ?_⟩
                simp only [List.mem_append, List.mem_singleton] at hy
                rcases hy with hy | rfl
                · exact HV.out.2 y hy
                · exact HOK.out.2
            case measure => simp [intOf]; omega
    · have hkn : k = n := by omega
      have hfin : T.take k = T := List.take_of_length_le (by rw [HT.out]; omega)
      rw [hfin] at hd
      have HD := hid hd
      clear hfin hd
      go_wp2
      rw [Exit.noGoto_normal]
      go_end0
      exact ⟨rfl, W1, va, hB1, HD.out⟩

end Go.Proofs.YtbampfkmgjfofaaGreatDoor

namespace Go.Proofs.YtbampfkmgjfofaaGreatDoor
open Go.RowKit

/-- What is asked of a request alone, question by question. -/
def zM (E : List Ent) (S : List (Int × Int × Int)) (R : List (Tx × Int)) (out win : Int) (P : List Tx) (x : Ask) : Nat → Bool
  | 0 => missesM R.length x
  | 1 => malformedM P x
  | 2 => meddlesM R x.b x.f.toNat x.c.toNat
  | 3 => lateM out win x
  | _ => distortsM E S R P x.f.toNat x.c.toNat

/-- The error of a request alone. -/
def aloneM (E : List Ent) (S : List (Int × Int × Int)) (R : List (Tx × Int)) (out win : Int) (L : List Req) (x : Ask) : Int :=
  let z := zM E S R out win (L.getD x.i default).put x
  if z 0 then 2 else if z 1 then 1 else if z 2 then 5 else if z 3 then 11 else if z 4 then 9 else 0

theorem misses_not {n : Nat} {x : Ask} (h : missesM n x = false) : 0 ≤ x.c ∧ 0 ≤ x.f ∧ x.f + x.c ≤ n := by
  unfold missesM inB at h
  simp only [Bool.or_eq_false_iff, decide_eq_false_iff_not, Bool.not_eq_false', decide_eq_true_eq] at h
  omega

theorem malformed_not {P : List Tx} {x : Ask} (h : malformedM P x = false) : P.length ≤ 8 ∧ ∀ t ∈ P, textOk t = true := by
  unfold malformedM at h
  simp only [Bool.or_eq_false_iff, decide_eq_false_iff_not, Bool.not_eq_false', List.all_eq_true] at h
  exact ⟨by omega, h.2.1⟩

theorem report_ok {R : List (Tx × Int)} {out win : Int} (h : reportOk R out win = true) : R.length ≤ 80 ∧ (∀ n ∈ R, textOk n.1 = true) ∧ (0 ≤ out ∧ out ≤ 100000) ∧ (0 ≤ win ∧ win ≤ 100000) := by
  unfold reportOk inB at h
  simp only [Bool.and_eq_true, decide_eq_true_eq, List.all_eq_true, saidOk] at h
  exact ⟨h.1, fun n hn => (h.2.1 n hn).1, h.2.2.1, h.2.2.2⟩

theorem asked_of {w W0 : World} {hb : Nat} {C : Hc} {E : List Ent} {S : List (Int × Int × Int)} {R : List (Tx × Int)} {L : List Req} {x : Ask}
    (hB0 : Below w.heap.size w W0) (hh : w.heap.size ≤ hb) (ha : w.heap.size ≤ C.ab) (hmh : C.mb ≠ hb) (hma : C.mb ≠ C.ab)
    (hR : R.length = C.wn) (hcap : C.wn ≤ C.wc) (hRS : Nums w C.wa R) (hok : reportOk R C.out C.win = true) (hm : MapIs W0 C.mb E) (hE : noTwice E = true)
    (hs : S.length = C.sn) (hsn : C.sn ≤ maxLen) (hS : SwapsAt w C.sa S) (hx : ReqIs w x (L.getD x.i default)) (hxc : I64 x.c) (hstd : Std w) :
    Asked W0 hb C (aloneM E S R C.out C.win L) x (zM E S R C.out C.win (L.getD x.i default).put x) := by
  obtain ⟨hr1, hr2, hr3, hr4⟩ := report_ok hok
  obtain ⟨hxb, hxm, hxf, hxcc, hpn, hpm, hps⟩ := hx
  constructor
  · intro k hk hz ht
    unfold aloneM
    rcases (by omega : k = 0 ∨ k = 1 ∨ k = 2 ∨ k = 3 ∨ k = 4) with rfl | rfl | rfl | rfl | rfl
    · simp only [ht]; rfl
    · simp only [hz 0 (by omega), ht]; rfl
    · simp only [hz 0 (by omega), hz 1 (by omega), ht]; rfl
    · simp only [hz 0 (by omega), hz 1 (by omega), hz 2 (by omega), ht]; rfl
    · simp only [hz 0 (by omega), hz 1 (by omega), hz 2 (by omega), hz 3 (by omega), ht]; rfl
  · intro hz
    have hmi := misses_not (hz 0 (by omega))
    refine ⟨?_, ?_⟩
    · unfold aloneM
      simp only [hz 0 (by omega), hz 1 (by omega), hz 2 (by omega), hz 3 (by omega), hz 4 (by omega)]
      rfl
    · unfold I64
      omega
  · intro k hk hz W1 A va V W hB1 hd
    have hBw : Below w.heap.size w W := hd.below (below_then hB0 hB1) hh ha (Nat.le_trans hB0.size hB1.size)
    have c0 : W.cell? ⟨hb, 0, none⟩ = some (.slice C.wa C.wn C.wc) := hd.hear.cell (i := 0) (by omega)
    have c1 : W.cell? ⟨hb, 1, none⟩ = some (.int .i64 C.out) := hd.hear.cell (i := 1) (by omega)
    have c2 : W.cell? ⟨hb, 2, none⟩ = some (.int .i64 C.win) := hd.hear.cell (i := 2) (by omega)
    have c3 : W.cell? ⟨hb, 3, none⟩ = some (.map (some C.mb)) := hd.hear.cell (i := 3) (by omega)
    have c4 : W.cell? ⟨hb, 4, none⟩ = some (.slice C.sa C.sn C.sc) := hd.hear.cell (i := 4) (by omega)
    rcases (by omega : k = 0 ∨ k = 1 ∨ k = 2 ∨ k = 3 ∨ k = 4) with rfl | rfl | rfl | rfl | rfl
    · show Calls Tryz.prog 112 _ _ fun e w' => e = .returned (.bool (missesM R.length x)) ∧ _
      rw [hR]
      exact misses_any hb C.wa C.wn C.wc x W c0 (by omega) hxc
    · exact malformed_any hb _ x W hpn hpm (hps.grown hBw)
    · have hmi := misses_not (hz 0 (by omega))
      exact meddles_any hb C.wa C.wn C.wc R x x.f.toNat x.c.toNat W c0 hR (by omega) hcap (hRS.grown hBw) (by omega) (by omega) (by omega)
    · exact late_any hb C.out C.win x W c1 c2 (by unfold I64; omega)
    · have hmi := misses_not (hz 0 (by omega))
      have hma2 := malformed_not (hz 1 (by omega))
      have hm0 := (hm.grown hB1)
      have hmW : MapIs W C.mb E := hm0.kept (hd.keep C.mb hm0.lt hmh hma)
      exact distorts_any hb C.wa C.wn C.wc R x x.f.toNat x.c.toNat E C.mb S C.sa C.sn C.sc _ W c0 c3 c4 hR (by omega) hcap (hRS.grown hBw) (fun n hn => textOk_size (hr2 n hn)) (by omega) (by omega) (by omega)
        hmW hE hs hsn (hS.grown hBw) hpn (by omega) (hps.grown hBw) (fun t ht => textOk_size (hma2.2 t ht)) (hstd.grown hBw)

end Go.Proofs.YtbampfkmgjfofaaGreatDoor
