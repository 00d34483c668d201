/- Contract of the search's closure: what it finds, and what it leaves. -/
import Derived.Test.YtgapbaelifcifaaAF
namespace Go.Proofs.Ytgapbaelifcifaa
open Go.RowKit

set_option maxRecDepth 100000 in
set_option maxHeartbeats 4000000 in
theorem giveO_any (B : Nat) (w0 : World) (s : Sv) (C : List (Int × Int × Int)) (T : List (Int × Int)) (p : How) (q1 q2 q3 q4 : Nat) (hB : B = w0.heap.size) (hs : SvOk s C T w0) (hcn : p.cn = s.cn) (htn : p.tn = s.tn)
    (hag : ∀ k r, k < p.tn → r < p.cn → p.ag k r = againM s C T k r ∧ againM s C T k r ≤ p.tn)
    (hmay : ∀ (W : World) (k r h0 h1 h2 h3 h4 : Nat), Below B w0 W → k < p.tn → r < p.cn → Calls Try.prog 83 #[.agg #[.int .i64 (h0 : Int), .int .i64 (h1 : Int), .int .i64 (h2 : Int), .int .i64 (h3 : Int), .int .i64 (h4 : Int)], .int .i64 (k : Int), .int .i64 (r : Int), .pointer (some ⟨q1, 0, none⟩), .pointer (some ⟨q2, 0, none⟩), .pointer (some ⟨q3, 0, none⟩), .pointer (some ⟨q4, 0, none⟩)] W fun e w' => e = .returned (.bool (p.may k r (decide ([h0, h1, h2, h3, h4].getD r 0 ≤ k)))) ∧ Below W.heap.size W w') (d : Nat) :
    ∀ (k h0 h1 h2 h3 h4 : Nat) (w : World) (R : List Nat) (rc : Nat), p.tn - k = d → k ≤ p.tn → (h0 ≤ p.tn ∧ h1 ≤ p.tn ∧ h2 ≤ p.tn ∧ h3 ≤ p.tn ∧ h4 ≤ p.tn) → R.length = k → p.path R 0 [0, 0, 0, 0, 0] → p.after R 0 [0, 0, 0, 0, 0] = [h0, h1, h2, h3, h4] →
      GI B w0 s p (.func (.func 83) #[] #[.pointer (some ⟨q1, 0, none⟩), .pointer (some ⟨q2, 0, none⟩), .pointer (some ⟨q3, 0, none⟩), .pointer (some ⟨q4, 0, none⟩)]) w R rc →
      Calls Try.prog 74 #[.int .i64 (k : Int), .agg #[.int .i64 (h0 : Int), .int .i64 (h1 : Int), .int .i64 (h2 : Int), .int .i64 (h3 : Int), .int .i64 (h4 : Int)], .pointer (some ⟨B + 3, 0, none⟩), .pointer (some ⟨B, 0, none⟩), .pointer (some ⟨B + 5, 0, none⟩), .pointer (some ⟨B + 1, 0, none⟩), .pointer (some ⟨B + 2, 0, none⟩), .pointer (some ⟨B + 6, 0, none⟩)] w
        (GivePost B w0 s p (.func (.func 83) #[] #[.pointer (some ⟨q1, 0, none⟩), .pointer (some ⟨q2, 0, none⟩), .pointer (some ⟨q3, 0, none⟩), .pointer (some ⟨q4, 0, none⟩)]) k [h0, h1, h2, h3, h4] R rc w) := by
  have h5 := hs.c5
  have h40 := hs.t40
  have c5 : p.cn ≤ 5 := by omega
  have t40 : p.tn ≤ 40 := by omega
  have htn' : s.tn ≤ p.tn := by omega
  have htn'' : p.tn ≤ s.tn := by omega
  have hcn' : s.cn ≤ p.cn := by omega
  have hcn'' : p.cn ≤ s.cn := by omega
  have HB := hid hB
  have HCN := hid hcn
  have HTN := hid htn
  have HAG := hid hag
  have HMAY := hid hmay
  clear hB hcn htn hag hmay
  induction d with
  | zero =>
    intro k h0 h1 h2 h3 h4 w R rc hd hk hh hR hP hA hG
    obtain rfl : k = p.tn := by omega
    have HR := hid hR
    have HA := hid hA
    clear hR hA hd
    have g := hG.alloc (.cells #[.int .i64 (h0 : Int), .int .i64 (h1 : Int), .int .i64 (h2 : Int), .int .i64 (h3 : Int), .int .i64 (h4 : Int)] 130)
    have hBw : Below B w0 w := hG.below
    have z1 := hG.sz
    have z2 : B + 3 < w.heap.size := by omega
    have z3 : B < w.heap.size := by omega
    have r1 := hG.re.cell
    have r2 := hG.re.frozen
    have v7 : w.cell? ⟨B, 7, none⟩ = some (.slice s.ta s.tn s.tc) := by rw [cell_of_block hG.v]; rfl
    have hrc := hG.rcle
    have e1 : ((p.tn : Int) == (s.tn : Int)) = true := by rw [HTN.out]; simp
    by_cases hlt : rc < p.tn
    · go_enter Try.func74, Try.ntmps74
      go_wp2
      go_ret
      refine ⟨true, R, p.tn, rfl, (hG.reach (by omega) (Nat.le_refl _) ⟨R, HR.out, hP⟩).alloc _, (Kp3.set (by omega)).trans (Kp3.of_below ((Below.refl _ _).alloc (Nat.le_refl _) _)), by omega, Nat.le_refl _, ?_⟩
      rw [if_pos rfl]
      exact ⟨[], by simp, ⟨trivial, by simp, fun qs _ _ => trivial⟩, Nat.le_refl _⟩
    · go_enter Try.func74, Try.ntmps74
      go_wp2
      go_ret
      refine ⟨true, R, rc, rfl, (hG.reach (Nat.le_refl _) hG.rcle hG.wit).alloc _, (Kp3.set (by omega)).trans (Kp3.of_below ((Below.refl _ _).alloc (Nat.le_refl _) _)), Nat.le_refl _, by omega, ?_⟩
      rw [if_pos rfl]
      exact ⟨[], by simp, ⟨trivial, by simp, fun qs _ _ => trivial⟩, by omega⟩
  | succ d ih =>
    intro k h0 h1 h2 h3 h4 w R rc hd hk hh hR hP hA hG
    have HIH := hid ih
    have HR := hid hR
    have HA := hid hA
    have hlt : k < p.tn := by omega
    have hdk : p.tn - (k + 1) = d := by omega
    have HD := hid hdk
    clear hR hA hd hdk ih
    have z1 := hG.sz
    have z2 : B + 3 < w.heap.size := by omega
    have z3 : B < w.heap.size := by omega
    have r1 := hG.re.cell
    have r2 := hG.re.frozen
    have v7 : w.cell? ⟨B, 7, none⟩ = some (.slice s.ta s.tn s.tc) := by rw [cell_of_block hG.v]; rfl
    have hrc := hG.rcle
    have e1 : ((k : Int) == (s.tn : Int)) = false := by simp; omega
    have g0 : ∀ m, m = rc ∨ m = k → rc ≤ m → GI B w0 s p (.func (.func 83) #[] #[.pointer (some ⟨q1, 0, none⟩), .pointer (some ⟨q2, 0, none⟩), .pointer (some ⟨q3, 0, none⟩), .pointer (some ⟨q4, 0, none⟩)]) ((w.setCell ⟨B + 3, 0, none⟩ (.int .i64 (m : Int))).alloc (.cells #[.int .i64 (h0 : Int), .int .i64 (h1 : Int), .int .i64 (h2 : Int), .int .i64 (h3 : Int), .int .i64 (h4 : Int)] 130)) R m := fun m hm hle =>
      (hG.reach hle (by omega) (wit_at hG.wit ⟨R, HR.out, hP⟩ hm)).alloc _
    have zs : ∀ (m : Int), (w.setCell ⟨B + 3, 0, none⟩ (.int .i64 m)).heap.size = w.heap.size := fun m => by simp [World.setCell]
    by_cases hmk : rc < k
    all_goals
      go_enter Try.func74, Try.ntmps74
      go_wp2_with fail
      obtain ⟨W1, m, gm, hm1, hm2, hk1, xb, hrep⟩ : ∃ (W1 : World) (m : Nat), GI B w0 s p (.func (.func 83) #[] #[.pointer (some ⟨q1, 0, none⟩), .pointer (some ⟨q2, 0, none⟩), .pointer (some ⟨q3, 0, none⟩), .pointer (some ⟨q4, 0, none⟩)]) W1 R m ∧ rc ≤ m ∧ k ≤ m ∧ Kp3 B w W1 ∧ W1.heap[w.heap.size]? = some (.cells #[.int .i64 (h0 : Int), .int .i64 (h1 : Int), .int .i64 (h2 : Int), .int .i64 (h3 : Int), .int .i64 (h4 : Int)] 130 (0, 0)) ∧
          (W1 = (w.setCell ⟨B + 3, 0, none⟩ (.int .i64 (k : Int))).alloc (.cells #[.int .i64 (h0 : Int), .int .i64 (h1 : Int), .int .i64 (h2 : Int), .int .i64 (h3 : Int), .int .i64 (h4 : Int)] 130) ∧ rc < k ∨ W1 = (w.setCell ⟨B + 3, 0, none⟩ (.int .i64 (rc : Int))).alloc (.cells #[.int .i64 (h0 : Int), .int .i64 (h1 : Int), .int .i64 (h2 : Int), .int .i64 (h3 : Int), .int .i64 (h4 : Int)] 130) ∧ ¬ rc < k) := by
        by_cases e : rc < k
        · refine ⟨_, k, g0 k (.inr rfl) (by omega), by omega, Nat.le_refl _, (Kp3.set (by omega)).trans (Kp3.of_below ((Below.refl _ _).alloc (Nat.le_refl _) _)), ?_, .inl ⟨rfl, e⟩⟩
          have := World.alloc_heap_new (w.setCell ⟨B + 3, 0, none⟩ (.int .i64 (k : Int))) (.cells #[.int .i64 (h0 : Int), .int .i64 (h1 : Int), .int .i64 (h2 : Int), .int .i64 (h3 : Int), .int .i64 (h4 : Int)] 130)
          rwa [zs] at this
        · refine ⟨_, rc, g0 rc (.inl rfl) (Nat.le_refl _), Nat.le_refl _, by omega, (Kp3.set (by omega)).trans (Kp3.of_below ((Below.refl _ _).alloc (Nat.le_refl _) _)), ?_, .inr ⟨rfl, e⟩⟩
          have := World.alloc_heap_new (w.setCell ⟨B + 3, 0, none⟩ (.int .i64 (rc : Int))) (.cells #[.int .i64 (h0 : Int), .int .i64 (h1 : Int), .int .i64 (h2 : Int), .int .i64 (h3 : Int), .int .i64 (h4 : Int)] 130)
          rwa [zs] at this
      first
        | rw [← (hrep.resolve_right (fun h => h.2 hmk)).1]
        | rw [← (hrep.resolve_left (fun h => hmk h.2)).1]
      clear hrep g0 zs r1 r2 v7 e1
      refine (at_any h0 h1 h2 h3 h4 k _ (by omega)).mono ?_
      rintro e W2 ⟨rfl, hb2⟩
      have g2 := gm.step hb2
      have k2 : Kp3 B w W2 := hk1.trans (Kp3.of_below hb2)
      have zz : ∀ h, h ≤ p.tn → zM k h ≤ 1000 := fun h hh => by unfold zM; split <;> omega
      obtain ⟨q, hlook, hq⟩ := tried_look (g2.alloc (.cells #[.int .i64 (k : Int), .int .i64 (zM k h0 : Nat), .int .i64 (zM k h1 : Nat), .int .i64 (zM k h2 : Nat), .int .i64 (zM k h3 : Nat), .int .i64 (zM k h4 : Nat)] 133)).tried (t := k) (by omega) (zz h0 hh.1) (zz h1 hh.2.1) (zz h2 hh.2.2.1) (zz h3 hh.2.2.2.1) (zz h4 hh.2.2.2.2)
      dsimp only [placeV] at hlook
      have HQ := hid hq
      clear hq
      have t5 := g2.tr.cell
      have z5 : B + 5 < W2.heap.size := by have := g2.sz; omega
      have zB : B < W2.heap.size := by omega
      have v4 : W2.cell? ⟨B, 4, none⟩ = some (.slice s.ca s.cn s.cc) := by rw [cell_of_block g2.v]; rfl
      have zw : B + 7 ≤ w.heap.size ∧ w.heap.size < W1.heap.size ∧ W1.heap.size ≤ W2.heap.size := ⟨z1, (Array.getElem?_eq_some_iff.1 xb).1, hb2.size⟩
      cases q with
      | true =>
        go_wp2
        go_ret
        refine ⟨false, R, m, rfl, g2.alloc _, k2.trans (Kp3.of_below ((Below.refl _ _).alloc (Nat.le_refl _) _)), hm1, hm2, ?_⟩
        rw [if_neg (by simp)]
        exact ⟨rfl, How.dead_alike (HQ.out trivial) (alike_zM k [h0, h1, h2, h3, h4]).symm⟩
      | false =>
        clear HQ
        go_wp2
        obtain ⟨W3, hW3⟩ : ∃ W3, W3 = W2.alloc (.cells #[.int .i64 (k : Int), .int .i64 (zM k h0 : Nat), .int .i64 (zM k h1 : Nat), .int .i64 (zM k h2 : Nat), .int .i64 (zM k h3 : Nat), .int .i64 (zM k h4 : Nat)] 133) := ⟨_, rfl⟩
        have g3 : GI B w0 s p (.func (.func 83) #[] #[.pointer (some ⟨q1, 0, none⟩), .pointer (some ⟨q2, 0, none⟩), .pointer (some ⟨q3, 0, none⟩), .pointer (some ⟨q4, 0, none⟩)]) W3 R m := by rw [hW3]; exact g2.alloc _
        have k3 : Kp3 B w W3 := by rw [hW3]; exact k2.trans (Kp3.of_below ((Below.refl _ _).alloc (Nat.le_refl _) _))
        have x3 : W3.heap[w.heap.size]? = some (.cells #[.int .i64 (h0 : Int), .int .i64 (h1 : Int), .int .i64 (h2 : Int), .int .i64 (h3 : Int), .int .i64 (h4 : Int)] 130 (0, 0)) := by rw [hW3, Below.heap_alloc _ _ _ (by omega), hb2.block _ zw.2.1]; exact xb
        have y3 : W3.heap[W2.heap.size]? = some (.cells #[.int .i64 (k : Int), .int .i64 (zM k h0 : Nat), .int .i64 (zM k h1 : Nat), .int .i64 (zM k h2 : Nat), .int .i64 (zM k h3 : Nat), .int .i64 (zM k h4 : Nat)] 133 (0, 0)) := by rw [hW3]; exact World.alloc_heap_new _ _
        obtain ⟨bx, hbx⟩ : ∃ b, b = w.heap.size := ⟨_, rfl⟩
        obtain ⟨by_, hby⟩ : ∃ b, b = W2.heap.size := ⟨_, rfl⟩
        rw [← hW3, ← hbx, ← hby]
        rw [← hbx] at x3
        rw [← hby] at y3
        have zx : B + 7 ≤ bx := by omega
        have zy : B + 7 ≤ by_ := by omega
        clear hW3 hbx hby hlook t5 z5 zB v4 zw hb2 g2 k2 xb gm hk1
        go_loopw [34] (fun i wr => ∃ (r m' : Nat), r ≤ p.cn ∧ i = .int .i64 r ∧ m ≤ m' ∧ GI B w0 s p (.func (.func 83) #[] #[.pointer (some ⟨q1, 0, none⟩), .pointer (some ⟨q2, 0, none⟩), .pointer (some ⟨q3, 0, none⟩), .pointer (some ⟨q4, 0, none⟩)]) wr R m' ∧ p.deadTo m' r k [h0, h1, h2, h3, h4] ∧ Kp3 B W3 wr) (fun i _ => p.cn - (intOf i).toNat)
        case atStart => exact ⟨0, m, Nat.zero_le _, rfl, Nat.le_refl _, g3, fun r hr => absurd hr (Nat.not_lt_zero _), Kp3.refl _ _⟩
        case round =>
          obtain ⟨r, m', hr, rfl, hm', g, hd, hkr⟩ := hrel
          have xr := hkr.2 bx _ _ _ zx x3 (by decide)
          have yr := hkr.2 by_ _ _ _ zy y3 (by decide)
          clear x3 y3 g3
          by_cases hrc2 : r < p.cn
          · have ma := g.ma.cell
            have a0 := (cell_of_block xr 0).trans rfl
            have a1 := (cell_of_block xr 1).trans rfl
            have a2 := (cell_of_block xr 2).trans rfl
            have a3 := (cell_of_block xr 3).trans rfl
            have a4 := (cell_of_block xr 4).trans rfl
            have hrs : r < s.cn := by omega
            go_wp2_with fail
            refine (HMAY.out wr k r h0 h1 h2 h3 h4 g.below hlt hrc2).mono ?_
            rintro e Wa ⟨rfl, hba⟩
            generalize hmb : p.may k r (decide ([h0, h1, h2, h3, h4].getD r 0 ≤ k)) = mb
            have HMB := hid hmb
            clear hmb ma a0 a1 a2 a3 a4
            have ga := g.step hba
            have ka := hkr.trans (Kp3.of_below hba)
            cases mb with
            | false =>
              go_wp2
              go_roundw
              case rel => exact ⟨r + 1, m', by omega, by go_num, hm', ga, How.deadTo_next hd (fun rs hp => by have h := hp.2.2.1; rw [HMB.out] at h; cases h), ka⟩
              case measure => simp [intOf]; omega
            | true =>
              have xa := (hba.block bx (Array.getElem?_eq_some_iff.1 xr).1).trans xr
              have ya := (hba.block by_ (Array.getElem?_eq_some_iff.1 yr).1).trans yr
              clear xr yr
              have a0 := (cell_of_block xa 0).trans rfl
              have a1 := (cell_of_block xa 1).trans rfl
              have a2 := (cell_of_block xa 2).trans rfl
              have a3 := (cell_of_block xa 3).trans rfl
              have a4 := (cell_of_block xa 4).trans rfl
              have v0 := (cell_of_block ga.v 0).trans rfl
              have v1 := (cell_of_block ga.v 1).trans rfl
              have v2 := (cell_of_block ga.v 2).trans rfl
              have v3 := (cell_of_block ga.v 3).trans rfl
              have v4 := (cell_of_block ga.v 4).trans rfl
              have v5 := (cell_of_block ga.v 5).trans rfl
              have v6 := (cell_of_block ga.v 6).trans rfl
              have v7 := (cell_of_block ga.v 7).trans rfl
              have zB : B < Wa.heap.size := by have := ga.sz; omega
              have hsW := hs.grown (show Below w0.heap.size w0 (Wa.alloc (.cells #[.int .i64 (h0 : Int), .int .i64 (h1 : Int), .int .i64 (h2 : Int), .int .i64 (h3 : Int), .int .i64 (h4 : Int)] 130)) from HB.out ▸ (ga.alloc (.cells #[.int .i64 (h0 : Int), .int .i64 (h1 : Int), .int .i64 (h2 : Int), .int .i64 (h3 : Int), .int .i64 (h4 : Int)] 130)).below)
              have hHAG := HAG.out k r hlt hrc2
              go_wp2_with fail
              refine (again_any s C T k r _ hsW (by omega) hrs).mono ?_
              rintro e Wb ⟨rfl, hbb⟩
              clear a0 a1 a2 a3 a4 v0 v1 v2 v3 v4 v5 v6 v7 hsW
              have nbx : Wb.heap[Wa.heap.size]? = some (.cells #[.int .i64 (h0 : Int), .int .i64 (h1 : Int), .int .i64 (h2 : Int), .int .i64 (h3 : Int), .int .i64 (h4 : Int)] 130 (0, 0)) := (hbb.block _ (by simp)).trans (World.alloc_heap_new _ _)
              have gb := (ga.alloc (.cells #[.int .i64 (h0 : Int), .int .i64 (h1 : Int), .int .i64 (h2 : Int), .int .i64 (h3 : Int), .int .i64 (h4 : Int)] 130)).step hbb
              have kb : Kp3 B W3 Wb := ka.trans ((Kp3.of_below ((Below.refl _ _).alloc (Nat.le_refl _) _)).trans (Kp3.of_below hbb))
              have znb : B + 7 ≤ Wa.heap.size ∧ W3.heap.size ≤ Wa.heap.size := ⟨ga.sz, ka.1⟩
              obtain ⟨nb, hnb⟩ : ∃ b, b = Wa.heap.size := ⟨_, rfl⟩
              rw [← hnb] at nbx znb ⊢
              obtain ⟨a, ha⟩ : ∃ a, a = againM s C T k r := ⟨_, rfl⟩
              rw [← ha] at hHAG ⊢
              obtain ⟨hag1, hag2⟩ := hHAG
              have HAa := hid hag1
              clear hag1 ha hnb hbb ga
              have hr5 : r < 5 := by omega
              have ncr : ∃ x, Wb.cell? ⟨nb, r, none⟩ = some x := by rw [cell_of_block nbx]; exact ⟨_, Array.getElem?_eq_getElem (by simpa using hr5)⟩
              obtain ⟨ox, ncr⟩ := ncr
              have nfr := frozen_of_block nbx r
              have nbc := setCell_block (o := r) nbx (.int .i64 (a : Int))
              obtain ⟨n0, n1, n2, n3, n4, hset, harr⟩ := set5 h0 h1 h2 h3 h4 r a hr5
              rw [harr] at nbc
              have hnle := set5_le hh (HAa.out ▸ hag2) hset
              have HSET := hid hset
              clear hset harr
              have gc := gb.poke (o := r) nbx (by decide) znb.1 (.int .i64 (a : Int))
              have kc : Kp3 B W3 (Wb.setCell ⟨nb, r, none⟩ (.int .i64 (a : Int))) := kb.poke znb.2
              obtain ⟨lv, hl, hrow⟩ := gc.li
              obtain ⟨va, vc, rfl⟩ := owns_shape hrow
              have l1 := hl.cell
              have l2 := hl.frozen
              have zb7 := gb.sz
              have zl : B + 2 < Wb.heap.size := by omega
              have zsz : (Wb.setCell ⟨nb, r, none⟩ (.int .i64 (a : Int))).heap.size = Wb.heap.size := by simp [World.setCell]
              have hn := cell_one_new (Wb.setCell ⟨nb, r, none⟩ (.int .i64 (a : Int))) (.int .i64 (r : Int)) 3
              rw [zsz] at hn
              have HN := hid hn
              have hRk : R.length ≤ 40 := by rw [HR.out]; omega
              clear hn
              obtain ⟨i3, hi3, hi3a, hi3b, hi3c⟩ := info_parts Try.info3
              go_wp2_with (at_builtin; refine wpList_append_own _ rfl _ _ 53 rfl (B + 7) 3 i3 (.int .i64 0) 1 8 Try.underlying53 hi3 hi3a hi3b hi3c rfl (by decide) _ _ _ rfl (hrow.alloc _) ⟨Wb.heap.size, 0, none⟩ 1 1 [.int .i64 (r : Int)] rfl rfl HN.out (by simp [Value.oneCell']) (by unfold maxLen; omega) (by omega) (by rw [World.size_alloc, zsz]; omega) ?_; intro v' Wd hown' hgrow _; obtain ⟨g', cap', rfl⟩ := ownsRow_succ hown'; have hpu := gc.push hl hrow hown' hgrow; have kd := Kp3.push (v' := .slice (some ⟨g', 0, none⟩) (R.length + 1) cap') hrow hgrow; have bd : Boxed Wd (B + 2) 53 (.slice va R.length vc) := (hl.alloc _).kept hgrow (fun e => by have := (hrow.lt _ e.symm).1; omega); have d1 := bd.cell; have d2 := bd.frozen; have gv := hpu.gi.cell; unfold giveV at gv; have nd := kd.2 nb _ _ _ znb.1 nbc (by decide); have b0 := (cell_of_block nd 0).trans rfl; have b1 := (cell_of_block nd 1).trans rfl; have b2 := (cell_of_block nd 2).trans rfl; have b3 := (cell_of_block nd 3).trans rfl; have b4 := (cell_of_block nd 4).trans rfl)
              have hcall := HIH.out (k + 1) n0 n1 n2 n3 n4 _ (R ++ [r]) m' HD.out (by omega) hnle (by simp [HR.out]) (by
                rw [How.path_append]
                refine ⟨hP, ?_⟩
                rw [HA.out, HR.out, Nat.zero_add]
                exact ⟨hlt, hrc2, HMB.out, trivial⟩) (by
                rw [How.after_append, HA.out, HR.out, Nat.zero_add]
                show [h0, h1, h2, h3, h4].set r (p.ag k r) = _
                rw [HAa.out]
                exact HSET.out) hpu
              rw [show ((k + 1 : Nat) : Int) = (k : Int) + 1 from by omega] at hcall
              refine hcall.mono ?_
              rintro e Wf ⟨b, R', m2, rfl, gf, kf, hmm, hkk, hres⟩
              have kloop := kc.trans (kd.trans kf)
              have kall := k3.trans kloop
              have HRES := hid hres
              clear hres
              clear hcall b0 b1 b2 b3 b4 nd gv d1 d2 bd kd hpu hown' hgrow l1 l2 hl hrow gc nbc nfr ncr nbx gb kb
              cases b with
              | true =>
                go_wp2
                go_ret
                refine ⟨true, R', m2, rfl, gf, kall, by omega, by omega, ?_⟩
                have hres := HRES.out
                rw [if_pos trivial] at hres
                rw [if_pos rfl]
                obtain ⟨rs, hRs, hbest, hfull⟩ := hres
                refine ⟨r :: rs, by rw [hRs]; simp, How.best_cons hrc2 hlt HMB.out hd ?_, hfull⟩
                rw [HAa.out, HSET.out]
                exact hbest
              | false =>
                have hres := HRES.out
                rw [if_neg (by simp)] at hres
                obtain ⟨rfl, hdead⟩ := hres
                have HDD := hid hdead
                clear hdead HRES
                obtain ⟨lv2, hl2, hrow2⟩ := gf.li
                rw [List.length_append, List.length_singleton] at hrow2
                obtain ⟨g2, cap2, rfl⟩ := ownsRow_succ hrow2
                have hcap : R.length + 1 ≤ cap2 := by
                  rcases hrow2.2 with ⟨h, _⟩ | ⟨_, _, _, h, _, _, h2, _⟩
                  · cases h
                  · cases h; exact h2
                have hpop := gf.pop hrow2 hl2
                rw [HR.out] at hpop hl2 hcap
                have l1 := hl2.cell
                have l2 := hl2.frozen
                clear hrow2
                go_wp2
                go_roundw
                case rel => exact ⟨r + 1, m2, by omega, by go_num, by omega, hpop, How.deadTo_next (How.deadTo_mono hd hmm) (How.no_of_dead (by rw [HAa.out, HSET.out]; exact HDD.out)), kloop.trans (Kp3.set (by omega))⟩
                case measure => simp [intOf]; omega
          · obtain rfl : r = p.cn := by omega
            have hdead := How.dead_alike (How.dead_of_deadTo hd hlt (by omega)) (alike_zM k [h0, h1, h2, h3, h4])
            have zz : ∀ h, h ≤ p.tn → zM k h ≤ 1000 := fun h hh => by unfold zM; split <;> omega
            obtain ⟨wz, hst, htz, hgz⟩ := tried_store g.tried (t := k) (by omega) (zz h0 hh.1) (zz h1 hh.2.1) (zz h2 hh.2.2.1) (zz h3 hh.2.2.2.1) (zz h4 hh.2.2.2.2) hdead
            dsimp only [placeV] at hst
            have c0 := (cell_of_block yr 0).trans rfl
            have c1 := (cell_of_block yr 1).trans rfl
            have c2 := (cell_of_block yr 2).trans rfl
            have c3 := (cell_of_block yr 3).trans rfl
            have c4 := (cell_of_block yr 4).trans rfl
            have c5' := (cell_of_block yr 5).trans rfl
            have t1 := g.tr.cell
            have HDT := hid hd
            clear hd hdead xr yr
            go_wp2
            go_ret
            refine ⟨false, R, m', rfl, g.mark htz hgz, k3.trans (hkr.trans (Kp3.grown hgz)), by omega, by omega, ?_⟩
            rw [if_neg (by simp)]
            exact ⟨rfl, How.dead_of_deadTo HDT.out hlt (by omega)⟩

end Go.Proofs.Ytgapbaelifcifaa
