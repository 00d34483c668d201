/- Mend: the segments of a hearing. -/
import Derived.Test.YtbampfkmgjfofaaGreatDoorDD
namespace Go.Proofs.YtbampfkmgjfofaaGreatDoor
open Go.RowKit

theorem Fresh.grown {B : Nat} {W W' : World} {a : Option Addr} (h : Fresh B W a) (hb : Below W.heap.size W W') : Fresh B W' a := fun b o x e => ⟨(h b o x e).1, Nat.lt_of_lt_of_le (h b o x e).2 hb.size⟩
theorem Fresh.le {B B' : Nat} {W : World} {a : Option Addr} (h : Fresh B W a) (hb : B' ≤ B) : Fresh B' W a := fun b o x e => ⟨Nat.le_trans hb (h b o x e).1, (h b o x e).2⟩

theorem flow_fold {n : Int} {R : List (Tx × Int)} {P : Nat → List Tx} : ∀ (k : Nat) {Q : List Ask} {s : List Seg × Nat}, Flow n s.2 Q → Flow n ((Q.take k).foldl (stepS R P) s).2 (Q.drop k)
  | 0, Q, s, h => by simpa using h
  | k + 1, [], s, h => by simpa using h
  | k + 1, x :: r, s, h => by
    rw [List.take_succ_cons, List.foldl_cons, List.drop_succ_cons]
    refine flow_fold k ?_
    have h2 := h.2.2
    have e : (((stepS R P s x).2 : Nat) : Int) = x.f + x.c := by
      have h3 := h.1
      have h4 := h.2.1
      unfold stepS
      simp only
      omega
    rw [e]
    exact h2

/-- Where the next request stands. -/
theorem flow_at {n : Int} {R : List (Tx × Int)} {P : Nat → List Tx} {Q : List Ask} {k : Nat} (h : Flow n 0 Q) (hk : k < Q.length) :
    ((runS R P (Q.take k)).2 : Int) ≤ (Q.getD k default).f ∧ 0 ≤ (Q.getD k default).c ∧ (Q.getD k default).f + (Q.getD k default).c ≤ n := by
  have h2 := flow_fold (R := R) (P := P) k (Q := Q) (s := ([], 0)) h
  rw [ask_drop hk] at h2
  exact ⟨h2.1, h2.2.1, flow_le h2.2.2⟩

theorem flow_end {n : Int} {R : List (Tx × Int)} {P : Nat → List Tx} {Q : List Ask} (h : Flow n 0 Q) : ((runS R P Q).2 : Int) ≤ n := by
  have h2 := flow_fold (R := R) (P := P) Q.length (Q := Q) (s := ([], 0)) h
  rw [List.take_length, List.drop_length] at h2
  exact h2

theorem runS_small {R : List (Tx × Int)} {P : Nat → List Tx} (Q : List Ask) : (runS R P Q).1.length ≤ 2 * Q.length := by
  have h := runS_length (R := R) (P := P) (Q := Q) (s := ([], 0))
  unfold runS
  simpa using h

/-- What segments returns. -/
def SegmentsPost (R : List (Tx × Int)) (P : Nat → List Tx) (V : List Ask) (w : World) (e : Ending) (w' : World) : Prop :=
  ∃ ra n rc Q, e = .returned (.slice ra n rc) ∧ Q.Perm V ∧ Q.Pairwise (fun x y => ltOf cmpS y x = false) ∧ (segM R P Q).length = n ∧ SegsAt w' ra (segM R P Q) ∧ Below w.heap.size w w'

set_option maxRecDepth 100000 in
set_option maxHeartbeats 8000000 in
theorem segments_any (hb : Nat) (wa : Option Addr) (wn wc : Nat) (R : List (Tx × Int)) (va : Option Addr) (vn vc base : Nat) (V : List Ask) (P : Nat → List Tx) (w : World)
    (h0 : w.cell? ⟨hb, 0, none⟩ = some (.slice wa wn wc)) (h5 : w.cell? ⟨hb, 5, none⟩ = some (.slice va vn vc)) (hR : R.length = wn) (hw : wn ≤ 80) (hcap : wn ≤ wc) (hN : Nums w wa R)
    (hV : V.length = vn) (hvn : vn ≤ 20) (hVA : AsksAt base w va V) (hP : ∀ x ∈ V, x.pn = (P x.i).length ∧ (P x.i).length ≤ 1000 ∧ Strs w x.pa (P x.i))
    (hfit : ∀ x ∈ V, 0 ≤ x.f ∧ 0 ≤ x.c ∧ x.f + x.c ≤ wn) (hap : V.Pairwise fun x y => meetA x y = false) :
    Calls Tryz.prog 63 #[.pointer (some ⟨hb, 0, none⟩)] w (SegmentsPost R P V w) := by
  have g0 := lt_of_cell h0
  obtain ⟨Wb, hWb⟩ : ∃ W, W = (((w.alloc (.cells #[.pointer (some ⟨hb, 0, none⟩)] 157)).alloc (.cells #[.slice none 0 0] 74)).alloc (.cells #[.int .i64 0] 3)).alloc (.cells #[.func (.func 83) #[] #[.pointer (some ⟨w.heap.size + 1, 0, none⟩), .pointer (some ⟨w.heap.size, 0, none⟩), .pointer (some ⟨w.heap.size + 1 + 1, 0, none⟩)]] 159) := ⟨_, rfl⟩
  have hBb : Below w.heap.size w Wb := by rw [hWb]; exact ((((Below.refl _ w).alloc (Nat.le_refl _) _).alloc (by simp) _).alloc (by simp; omega) _).alloc (by simp; omega) _
  have zb : Wb.heap.size = w.heap.size + 1 + 1 + 1 + 1 := by rw [hWb]; simp
  have x1 : Wb.cell? ⟨w.heap.size, 0, none⟩ = some (.pointer (some ⟨hb, 0, none⟩)) := by rw [hWb]; simp [go_sem]
  have x5 : Wb.cell? ⟨w.heap.size + 1 + 1 + 1, 0, none⟩ = some (.func (.func 83) #[] #[.pointer (some ⟨w.heap.size + 1, 0, none⟩), .pointer (some ⟨w.heap.size, 0, none⟩), .pointer (some ⟨w.heap.size + 1 + 1, 0, none⟩)]) := by rw [hWb]; simp [go_sem]
  have x3 : Boxed Wb (w.heap.size + 1) 74 (.slice none 0 0) := by
    rw [hWb]
    have h := Boxed.new (w.alloc (.cells #[.pointer (some ⟨hb, 0, none⟩)] 157)) 74 (.slice none 0 0)
    rw [World.size_alloc] at h
    exact (h.alloc _).alloc _
  have x4 : Boxed Wb (w.heap.size + 1 + 1) 3 (.int .i64 ((0 : Nat) : Int)) := by
    rw [hWb]
    have h := Boxed.new ((w.alloc (.cells #[.pointer (some ⟨hb, 0, none⟩)] 157)).alloc (.cells #[.slice none 0 0] 74)) 3 (.int .i64 0)
    rw [World.size_alloc, World.size_alloc] at h
    exact h.alloc _
  have y0 := cell_grown hBb h0
  have y5 := cell_grown hBb h5
  have HR := hid hR
  have HV := hid hV
  have HP := hid hP
  have HF := hid hfit
  have HAP := hid hap
  have HZB := hid zb
  clear hR hV hP hfit hap zb
  obtain ⟨b3, hb3⟩ : ∃ b, b = w.heap.size + 1 := ⟨_, rfl⟩
  obtain ⟨b4, hb4⟩ : ∃ b, b = w.heap.size + 1 + 1 := ⟨_, rfl⟩
  obtain ⟨b5, hb5⟩ : ∃ b, b = w.heap.size + 1 + 1 + 1 := ⟨_, rfl⟩
  have y0r := y0
  have y5r := y5
  rw [hWb] at y0r y5r
  go_enter Tryz.func63, Tryz.ntmps63
  go_wp2_with fail
  clear y0r y5r
  rw [← hWb]
  clear hWb
  refine (values_any va vn vc Wb).mono ?_
  rintro e w1 ⟨rfl, rfl⟩
  go_wp2_with fail
  refine (ruleF_any _ 2 2 _).mono ?_
  rintro e w2 ⟨rfl, rfl⟩
  go_wp2_with fail
  obtain ⟨Wc, hWc⟩ : ∃ W, W = ((Wb.alloc (.cells #[.slice va vn vc] 128)).alloc (.cells #[.func (.func 86) #[] #[], .func (.func 87) #[] #[]] 163)).alloc (.cells #[.slice (some ⟨Wb.heap.size + 1, 0, none⟩) 2 2] 190) := ⟨_, rfl⟩
  have hBc : Below Wb.heap.size Wb Wc := by rw [hWc]; exact (((Below.refl _ Wb).alloc (Nat.le_refl _) _).alloc (by simp) _).alloc (by simp; omega) _
  have zc : Wc.heap.size = Wb.heap.size + 1 + 1 + 1 := by rw [hWc]; simp
  have e0 : Wc.cell? ⟨Wb.heap.size, 0, none⟩ = some (.slice va vn vc) := by rw [hWc]; simp [go_sem]
  have e1 : Wc.cell? ⟨Wb.heap.size + 1, 0, none⟩ = some (.func (.func 86) #[] #[]) := by rw [hWc]; simp [go_sem]
  have e2 : Wc.cell? ⟨Wb.heap.size + 1, 1, none⟩ = some (.func (.func 87) #[] #[]) := by rw [hWc]; simp [go_sem]
  have e3 : Wc.cell? ⟨Wb.heap.size + 1 + 1, 0, none⟩ = some (.slice (some ⟨Wb.heap.size + 1, 0, none⟩) 2 2) := by rw [hWc]; simp [go_sem]
  rw [← hWc]
  clear hWc
  have zb := HZB.out
  have hBcw := below_then hBb hBc
  refine (sortedFunc_any V Wb.heap.size vn vc (Wb.heap.size + 1 + 1) (Wb.heap.size + 1) base va Wc HV.out (by omega) (hVA.grown hBcw) e0 (fun x hx => by have := HF.out x hx; unfold AskFit; omega) e3 e1 e2).mono ?_
  rintro e Wp ⟨ra, rc, Q, rfl, hq1, hq2, hq3, hb8⟩
  have hQl : Q.length = vn := by rw [hq1.length_eq]; exact HV.out
  have hBp : Below Wb.heap.size Wb Wp := below_then hBc hb8
  have hBpw := below_then hBb hBp
  have zp := hBp.size
  have q1 := cell_grown hBp x1
  have q5 := cell_grown hBp x5
  have q0 := cell_grown hBpw h0
  have hst0 : SegSt Wp (w.heap.size + 1) (w.heap.size + 1 + 1) [] 0 (.slice none 0 0) Wp := ⟨But2.refl _ _ _, (hBp.block _ (by omega)).trans x3, ⟨[], World.ownsRow_nil _ _ _ _, rfl, fun i hi => by simp at hi⟩, (hBp.block _ (by omega)).trans x4⟩
  have hE : SegEnv Wp w.heap.size (w.heap.size + 1) (w.heap.size + 1 + 1) hb wa wn wc R := ⟨by omega, by omega, by omega, by omega, by omega, q1, q0, HR.out, hw, hcap, fun W h => hN.grown (h.below hBpw (by omega) (by omega) (by omega))⟩
  have hflow : Flow R.length 0 Q := flow_of hq2 ((hq1.pairwise_iff (fun {x y} h => by rw [meetA_comm]; exact h)).2 HAP.out) (fun x hx => by have h := HF.out x (hq1.mem_iff.1 hx); rw [HR.out]; exact h) (by omega)
  have HE := hid hE
  have HFL := hid hflow
  have HQ := hid (And.intro hq1 hq2)
  have HQL := hid hQl
  have HQA := hid hq3
  have HST0 := hid hst0
  clear hE hflow hq1 hq2 hQl hq3 hst0 x1 x5 x3 x4 y0 y5 e0 e1 e2 e3 hBcw hVA h5 hBc hb8
  have HB := hid hBpw
  have HN := hid hN
  have HC5 := hid q5
  have zpp : w.heap.size + 4 ≤ Wp.heap.size := by omega
  have zcc : w.heap.size + 2 < Wc.heap.size := by omega
  clear hN q5 q0 q1 hBp hBb h0 zb zc zp
  go_wp2_with fail
  go_loopw [24] (fun i wr => ∃ (k : Nat) (v : Value), k ≤ vn ∧ i = .int .i64 k ∧ Hid (SegSt Wp (w.heap.size + 1) (w.heap.size + 1 + 1) (runS R P (Q.take k)).1 (runS R P (Q.take k)).2 v wr)) (fun i _ => vn - (intOf i).toNat)
  case atStart => exact ⟨0, _, Nat.zero_le _, rfl, HST0⟩
  case round =>
    obtain ⟨k, v, hk, rfl, HST⟩ := hrel
    have hzr := HST.out.but.size
    by_cases hlt : k < vn
    · have hlt' : (k : Int) < (vn : Int) := by omega
      have k0 : (0 : Int) ≤ (k : Int) := by omega
      have hkl : k < Q.length := by rw [HQL.out]; exact hlt
      have hfl := flow_at (R := R) (P := P) HFL.out hkl
      have hrn := runS_take (R := R) (P := P) hkl
      have hrl := runS_small (R := R) (P := P) (Q.take k)
      have hql : (Q.take k).length ≤ k := List.length_take_le _ _
      have hmem : Q.getD k default ∈ V := by rw [List.getD_eq_getElem?_getD, List.getElem?_eq_getElem hkl, Option.getD_some]; exact HQ.out.1.mem_iff.1 (List.getElem_mem _)
      obtain ⟨hp1, hp2, hp3⟩ := HP.out _ hmem
      obtain ⟨g, off, hg, ha, c0, c1, c2, c3, c4, c5⟩ := HQA.out k hkl
      generalize Q.getD k default = x at hfl hrn hp1 hp2 hp3 c0 c1 c2 c3 c4 c5
      have hn1 : g ≠ w.heap.size + 1 := by omega
      have hn2 : g ≠ w.heap.size + 1 + 1 := by omega
      replace c0 := HST.out.but.cell hn1 hn2 c0
      replace c1 := HST.out.but.cell hn1 hn2 c1
      replace c2 := HST.out.but.cell hn1 hn2 c2
      replace c3 := HST.out.but.cell hn1 hn2 c3
      replace c4 := HST.out.but.cell hn1 hn2 c4
      replace c5 := HST.out.but.cell hn1 hn2 c5
      have gg := lt_of_cell c0
      subst ha
      have HST2 : Hid (SegSt Wp (w.heap.size + 1) (w.heap.size + 1 + 1) (runS R P (Q.take k)).1 (runS R P (Q.take k)).2 v wr) := HST
      clear HST
      generalize hrs : runS R P (Q.take k) = rs at hfl hrn hrl HST2
      obtain ⟨L0, nx⟩ := rs
      simp only at hfl hrl HST2
      obtain ⟨xb, xm, xf, xc, xpa, xpn, xpc, xi⟩ := x
      simp only at hfl hp1 hp2 hp3 c0 c1 c2 c3 c4 c5
      obtain ⟨fn, rfl⟩ : ∃ fn : Nat, xf = fn := ⟨xf.toNat, by omega⟩
      obtain ⟨cn, rfl⟩ : ∃ cn : Nat, xc = cn := ⟨xc.toNat, by omega⟩
      have hwn := HR.out
      have hnf : nx ≤ fn := by omega
      have hfc : fn + cn ≤ wn := by omega
      have hL0 : L0.length ≤ 100 := by omega
      have HRN : Hid (runS R P (Q.take (k + 1)) = (L0 ++ keepS R nx fn ++ [(textsM R fn cn, P xi, (xi : Int))], fn + cn)) := hid (by
        rw [hrn]
        unfold stepS segQ
        simp only [Int.toNat_natCast]
        rw [show ((fn : Int) + (cn : Int)).toNat = fn + cn by omega])
      have HPX := hid (And.intro hp1 (And.intro hp2 hp3))
      clear hfl hrn hrs hmem hp1 hp2 hp3 hwn hql hrl hkl
      obtain ⟨Wx, hWx⟩ : ∃ W, W = wr.alloc (.cells #[.int .i64 xb, .int .i64 xm, .int .i64 (fn : Int), .int .i64 (cn : Int), .slice xpa xpn xpc, .int .i64 (xi : Int)] 162) := ⟨_, rfl⟩
      have hBx : Below wr.heap.size wr Wx := by rw [hWx]; exact below_alloc wr _
      have zx : Wx.heap.size = wr.heap.size + 1 := by rw [hWx]; simp
      have hax : AskAt Wx wr.heap.size ⟨xb, xm, fn, cn, xpa, xpn, xpc, xi⟩ := by rw [hWx]; exact AskAt.new wr ⟨xb, xm, fn, cn, xpa, xpn, xpc, xi⟩
      have hkeep := keep_any Wp w.heap.size (w.heap.size + 1) (w.heap.size + 1 + 1) (w.heap.size + 1 + 1 + 1) hb wa wn wc R HE.out (by omega) HC5.out L0 nx fn v Wx (HST2.out.grown hBx) (by omega) (by omega)
      go_wp2_with fail
      rw [← hWx]
      clear hWx
      refine hkeep.mono ?_
      rintro e w3 ⟨rfl, v3, hst3, hsy3⟩
      have hax3 : AskAt w3 wr.heap.size ⟨xb, xm, fn, cn, xpa, xpn, xpc, xi⟩ := by
        have hbk : w3.heap[wr.heap.size]? = Wx.heap[wr.heap.size]? := hsy3.same _ (by omega) (by omega) (by omega) (fun e => by
          obtain ⟨xs, ho, -⟩ := HST2.out.own
          have := (ho.lt _ e).2
          omega)
        exact ⟨(World.cell?_of_block (w := Wx) hbk).trans hax.c0, (World.cell?_of_block (w := Wx) hbk).trans hax.c1, (World.cell?_of_block (w := Wx) hbk).trans hax.c2, (World.cell?_of_block (w := Wx) hbk).trans hax.c3, (World.cell?_of_block (w := Wx) hbk).trans hax.c4, (World.cell?_of_block (w := Wx) hbk).trans hax.c5⟩
      have hz3 := hsy3.size
      have hnx : (if nx < fn then fn else nx) = fn := by split <;> omega
      rw [hnx] at hst3
      have hkl : (keepS R nx fn).length ≤ 1 := keepS_length
      have u0 := hax3.c0
      have u1 := hax3.c1
      have u2 := hax3.c2
      have u3 := hax3.c3
      have u4 := hax3.c4
      have u5 := hax3.c5
      simp only at u0 u1 u2 u3 u4 u5
      have gu := lt_of_cell u0
      have HST3 := hid hst3
      have hb5 : w3.cell? ⟨w.heap.size + 1 + 1 + 1, 0, none⟩ = some (.func (.func 83) #[] #[.pointer (some ⟨w.heap.size + 1, 0, none⟩), .pointer (some ⟨w.heap.size, 0, none⟩), .pointer (some ⟨w.heap.size + 1 + 1, 0, none⟩)]) := HST3.out.but.cell (by omega) (by omega) HC5.out
      have hBd : Below w3.heap.size w3 w3.drew := (Below.refl _ _).drew
      have HSY := hid hsy3
      have hLl : (L0 ++ keepS R nx fn).length ≤ 1000 := by rw [List.length_append]; omega
      have hzp3 : Wp.heap.size ≤ w3.heap.size := HST3.out.but.size
      have hB3w : Below w.heap.size w w3 := HST3.out.but.below HB.out (by omega) (by omega) (by omega)
      clear hst3 hax hax3 hsy3 hkeep hBx c0 c1 c2 c3 c4 c5 gg hkl hnx
      clear hb3 hb4
      go_wp2_with fail
      have UO := hid (And.intro u0 (And.intro u1 (And.intro u2 (And.intro u3 (And.intro u4 (And.intro u5 hb5))))))
      have hBq : Below w3.heap.size w3 w3.drew := hBd
      have HPS : Hid (Strs w3 xpa (P xi)) := hid (HPX.out.2.2.grown hB3w)
      clear hBd
      have hnv3 : v3.ownBlock ≠ some wr.heap.size := fun e => by
        rcases HSY.out.own _ e with h | h
        · obtain ⟨xs, ho, -⟩ := HST2.out.own
          have := (ho.lt _ h).2
          omega
        · omega
      have HNV := hid hnv3
      clear hnv3
      go_region_held3 (fun w' : World => w'.cell? ⟨wr.heap.size, 0, none⟩ = some (.int .i64 xb) ∧ w'.cell? ⟨wr.heap.size, 1, none⟩ = some (.int .i64 xm) ∧ w'.cell? ⟨wr.heap.size, 2, none⟩ = some (.int .i64 (fn : Int)) ∧ w'.cell? ⟨wr.heap.size, 3, none⟩ = some (.int .i64 (cn : Int)) ∧ w'.cell? ⟨wr.heap.size, 4, none⟩ = some (.slice xpa xpn xpc) ∧ w'.cell? ⟨wr.heap.size, 5, none⟩ = some (.int .i64 (xi : Int)) ∧ w'.cell? ⟨w.heap.size + 1 + 1 + 1, 0, none⟩ = some (.func (.func 83) #[] #[.pointer (some ⟨w.heap.size + 1, 0, none⟩), .pointer (some ⟨w.heap.size, 0, none⟩), .pointer (some ⟨w.heap.size + 1 + 1, 0, none⟩)])) (first | with_reducible exact ⟨u0, u1, u2, u3, u4, u5, hb5⟩ | with_reducible exact ⟨cell_grown hBq u0, cell_grown hBq u1, cell_grown hBq u2, cell_grown hBq u3, cell_grown hBq u4, cell_grown hBq u5, cell_grown hBq hb5⟩)
        (first
          | (go_at_call 91
             refine (end_any ⟨xb, xm, fn, cn, xpa, xpn, xpc, xi⟩ _ (by unfold I64; simp only; omega)).mono ?_
             rintro e w4 ⟨rfl, hb4⟩
             try replace hNs := hNs.grown hb4
             try replace hNf := hNf.grown hb4
             have hBn := hBq.trans (hb4.mono hBq.size)
             replace u0 := cell_grown hBn UO.out.1
             replace u1 := cell_grown hBn UO.out.2.1
             replace u2 := cell_grown hBn UO.out.2.2.1
             replace u3 := cell_grown hBn UO.out.2.2.2.1
             replace u4 := cell_grown hBn UO.out.2.2.2.2.1
             replace u5 := cell_grown hBn UO.out.2.2.2.2.2.1
             replace hb5 := cell_grown hBn UO.out.2.2.2.2.2.2
             clear hBq
             have hBq := hBn
             clear hBn)
          | (go_at_call 92
             refine (clone_any (P xi) xpn xpc xpa _ HPX.out.1.symm (by rw [HPX.out.1]; exact HPX.out.2.1) (HPS.out.grown hBq)).mono ?_
             rintro e w4 ⟨na, nc, rfl, hNs, hNf, hb4⟩
             replace hNf := hNf.le hBq.size
             have hBn := hBq.trans (hb4.mono hBq.size)
             replace u0 := cell_grown hBn UO.out.1
             replace u1 := cell_grown hBn UO.out.2.1
             replace u2 := cell_grown hBn UO.out.2.2.1
             replace u3 := cell_grown hBn UO.out.2.2.2.1
             replace u4 := cell_grown hBn UO.out.2.2.2.2.1
             replace u5 := cell_grown hBn UO.out.2.2.2.2.2.1
             replace hb5 := cell_grown hBn UO.out.2.2.2.2.2.2
             clear hBq
             have hBq := hBn
             clear hBn)
          | (go_at_call 83
             refine (add_any Wp w.heap.size (w.heap.size + 1) (w.heap.size + 1 + 1) hb wa wn wc R HE.out (L0 ++ keepS R nx fn) fn cn v3 na xpn nc (P xi) (xi : Int) _ (HST3.out.grown hBq) hfc hLl HPX.out.1.symm hNs (fun bb o x e => by
               obtain ⟨h1, h2⟩ := hNf bb o x e
               refine ⟨by omega, h2, fun h4 => ?_⟩
               obtain ⟨xs, ho, -⟩ := HST3.out.own
               have h5 := (ho.lt bb h4).2
               omega)).mono ?_
             rintro e w6 ⟨rfl, v6, hst6, hsy6⟩
             have hbk := hsy6.same wr.heap.size (lt_of_cell u0) (by omega) (by omega) HNV.out
             replace u0 := (World.cell?_of_block hbk).trans u0
             replace u1 := (World.cell?_of_block hbk).trans u1
             replace u2 := (World.cell?_of_block hbk).trans u2
             replace u3 := (World.cell?_of_block hbk).trans u3
             replace u4 := (World.cell?_of_block hbk).trans u4
             replace u5 := (World.cell?_of_block hbk).trans u5
             replace hb5 := hst6.but.cell (by omega) (by omega) HC5.out
             have HST6 := hid hst6
             clear hst6 hsy6 hbk))
      all_goals
        go_wp2
        go_roundw
        case rel => exact ⟨k + 1, v6, by omega, by go_num, hid (by rw [HRN.out]; exact HST6.out)⟩
        case measure => simp [intOf]; omega
    · have hkn : k = vn := by omega
      subst hkn
      have hfull : Q.take k = Q := List.take_of_length_le (by rw [HQL.out]; exact Nat.le_refl _)
      rw [hfull] at HST
      have hfe := flow_end (R := R) (P := P) HFL.out
      have hrl := runS_small (R := R) (P := P) Q
      have hql := HQL.out
      have hwn := HR.out
      have HSG : Hid (segM R P Q = (runS R P Q).1 ++ keepS R (runS R P Q).2 wn) := hid (by unfold segM; rw [hwn])
      have HSL := hid (segM_length (R := R) (P := P) (Q := Q))
      generalize hrs : runS R P Q = rs at HST hfe hrl HSG
      obtain ⟨L0, nx⟩ := rs
      simp only at HST hfe hrl HSG
      have hnw : nx ≤ wn := by omega
      have hL0 : L0.length ≤ 1000 := by omega
      have c1 : wr.cell? ⟨w.heap.size, 0, none⟩ = some (.pointer (some ⟨hb, 0, none⟩)) := HST.out.but.cell (by omega) (by omega) HE.out.ptr
      have c0 : wr.cell? ⟨hb, 0, none⟩ = some (.slice wa wn wc) := HST.out.but.cell (by omega) (by omega) HE.out.words
      have g1 := lt_of_cell c1
      have g2 := lt_of_cell c0
      have hkeep := keep_any Wp w.heap.size (w.heap.size + 1) (w.heap.size + 1 + 1) (w.heap.size + 1 + 1 + 1) hb wa wn wc R HE.out (by omega) HC5.out L0 nx wn v wr HST.out (Nat.le_refl _) hL0
      clear hrs hfe hrl hql hwn hfull hb3 hb4 hb5
      go_wp2_with fail
      refine hkeep.mono ?_
      rintro e w3 ⟨rfl, v3, hst3, -⟩
      rw [← HSG.out] at hst3
      have u3 := hst3.box.cell
      have gu := lt_of_cell u3
      have HST3 := hid hst3
      clear hst3 hkeep
      obtain ⟨xs, hown, hok⟩ := HST3.out.own
      obtain ⟨sa, sc, rfl⟩ := owns_shape hown
      have HO := hid hown
      have HOK := hid hok
      clear hown hok
      go_wp2
      go_ret
      exact ⟨sa, _, sc, Q, rfl, HQ.out.1, HQ.out.2, rfl, segs_of_ok HOK.out HO.out rfl, HST3.out.but.below HB.out (by omega) (by omega) (by omega)⟩

end Go.Proofs.YtbampfkmgjfofaaGreatDoor
