/- Contract of the reference's Rota. -/
import Derived.Test.YtgapbaelifcifaaFJ
import Derived.Test.YtgapbaelifcifaaGC
import Derived.Sort.AtCall
namespace Go.Proofs.Ytgapbaelifcifaa
open Go.RowKit

theorem wpList_append_ints {P : Program} {w : World} {ops : Array Oper} {rest : List Oper} {o : Oper} {a : Act} {Q : Exit → Act → World → Prop} (hgd : o.guard = none) (s x : Operand) (t : TypeId)
    (ho : o.op = .call { callee := .builtin .append, args := #[s, x], argTypes := #[t, t] })
    (base : Nat) (i : TypeInfo) (ht : P.underlying t = some (.slice 3)) (hi : P.info? 3 = some i) (hz : i.zero = some (.int .i64 0)) (hsize : i.size = 1) (hby : i.bytes = 8)
    (v : Value) (n : Nat) (xs : List Value) (hs : a.eval s = v) (hown : w.ownsRow base 3 1 v n xs) (za : Option Addr) (m c : Nat) (Z : List Int) (hx : a.eval x = .slice za m c) (hl : Z.length = m) (hI : Ints w za Z)
    (h63 : n + m ≤ 1000000) (hbase : base ≤ w.heap.size)
    (h : ∀ v' w', w'.ownsRow base 3 1 v' (n + m) (xs ++ flat1 Z) → w.grownBy w' v.ownBlock → wpList P ops Q rest (a.put o.dst v') w') : wpList P ops Q (o :: rest) a w := by
  cases za with
  | none =>
    have hm : m = 0 := by
      cases m with
      | zero => rfl
      | succ m => obtain ⟨b, off, e, _⟩ := hI 0 (by omega); simp at e
    subst hm
    have hZ : Z = [] := List.eq_nil_of_length_eq_zero hl
    subst hZ
    exact wpList_append_none hgd s x t ho base 3 i 1 c ht hi v n xs hs hown hx (h v w (by simpa [flat1] using hown) (World.grownBy.refl _ _))
  | some ad =>
    have hnews : ∀ j u, (flat1 Z)[j]? = some u → w.cell? (ad.add j) = some u := by
      intro j u hj
      have hjl : j < Z.length := by
        have := List.getElem?_eq_some_iff.1 hj
        obtain ⟨h1, _⟩ := this
        simpa [flat1] using h1
      obtain ⟨b, off, e, hcl⟩ := hI j hjl
      simp only [Option.some.injEq] at e
      subst e
      have hadd : (⟨b, off, none⟩ : Addr).add j = ⟨b, off + j, none⟩ := by unfold Addr.add; split <;> simp_all
      rw [hadd, hcl, ← hj]
      simp [flat1, List.getElem?_eq_getElem hjl]
    exact wpList_append_own w hgd s x t ho base 3 i (.int .i64 0) 1 8 ht hi hz hsize hby rfl (by decide) v n xs hs hown ad m c (flat1 Z) hx (by simp [flat1]; exact hl) hnews (fun x hx => by simp [flat1] at hx; obtain ⟨y, _, rfl⟩ := hx; rfl) (by unfold maxLen; omega) (by omega) hbase fun v' w' h1 h2 _ => h v' w' h1 h2

/-- The first list of reporters, from the least on, each beginning of which is as it should be. -/
def dfs (ok : List Nat → Bool) (cn : Nat) : Nat → List Nat → Option (List Nat)
  | 0, B => some B
  | d + 1, B => (List.range cn).findSome? fun r => if ok (B ++ [r]) then dfs ok cn d (B ++ [r]) else none

/-- May the last reporter have its take, and is it not the one that has none? -/
def okM (no : Int) (due delay : Int) (C : List (Int × Int × Int)) (T : List (Int × Int)) (X : List Nat) : Bool := !decide (((X.getD (X.length - 1) 0 : Nat) : Int) = no) && rotaOk due delay C T X (X.length - 1)

theorem okM_last (no due delay : Int) (C : List (Int × Int × Int)) (T : List (Int × Int)) (B : List Nat) (r : Nat) : okM no due delay C T (B ++ [r]) = (!decide ((r : Int) = no) && rotaOk due delay C T (B ++ [r]) B.length) := by
  unfold okM
  have h1 : (B ++ [r]).length - 1 = B.length := by simp
  rw [h1]
  simp [List.getD_eq_getElem?_getD]

theorem range_drop {cn k : Nat} (hk : k < cn) : (List.range cn).drop k = k :: (List.range cn).drop (k + 1) := by
  rw [List.drop_eq_getElem_cons (by simpa using hk)]
  simp

theorem map_map_nat (R : List Nat) : (R.map fun r : Nat => (r : Int)).map Int.toNat = R := by
  rw [List.map_map]
  conv => rhs; rw [← List.map_id R]
  exact List.map_congr_left fun x _ => by simp

theorem map_nat_get {R : List Nat} {j : Nat} (hj : j < R.length) : (R.map fun r : Nat => (r : Int)).getD j 0 = ((R.getD j 0 : Nat) : Int) := by
  rw [List.getD_eq_getElem?_getD, List.getElem?_map, List.getElem?_eq_getElem hj, List.getD_eq_getElem?_getD, List.getElem?_eq_getElem hj]
  rfl

theorem empty_owned (W : World) (X : Nat) (hX : X ≤ W.heap.size) : (W.alloc (.cells #[] 3)).ownsRow X 3 1 (.slice (some ⟨W.heap.size, 0, none⟩) 0 0) 0 [] := by
  refine ⟨by simp, .inr ⟨W.heap.size, 0, #[], rfl, hX, ?_, Nat.le_refl _, Nat.zero_le _, rfl, rfl⟩⟩
  exact World.alloc_heap_new W _

theorem ints_one (W : World) (x : Int) (g : Nat) (hg : g = W.heap.size) : Ints (W.alloc (.cells #[.int .i64 x] 3)) (some ⟨g, 0, none⟩) [x] := by
  subst hg
  intro i hi
  have h0 : i = 0 := by simpa using hi
  subst h0
  exact ⟨W.heap.size, 0, rfl, by simp [go_sem]⟩

theorem findSome_drop {α β : Type} {f : α → Option β} {X : List α} {k : Nat} {x : α} {Y : List α} (h : X.drop k = x :: Y) : (X.drop k).findSome? f = match f x with | some b => some b | none => Y.findSome? f := by
  rw [h, List.findSome?_cons]
  cases f x <;> rfl

theorem findSome_step {α β : Type} {f : α → Option β} {X : List α} {k : Nat} {x : α} {Y : List α} {z : Option β} (h : X.drop k = x :: Y) (hz : (X.drop k).findSome? f = z) : (∀ b, f x = some b → z = some b) ∧ (f x = none → Y.findSome? f = z) := by
  rw [findSome_drop h] at hz
  refine ⟨fun b e => ?_, fun e => ?_⟩ <;> rw [e] at hz
  · exact hz.symm
  · exact hz

set_option maxRecDepth 100000 in
set_option maxHeartbeats 4000000 in
theorem rotaR_any (C : List (Int × Int × Int)) (T : List (Int × Int)) (due delay no : Int) (cn cc n tc : Nat) (ca ta : Option Addr) (hC : C.length = cn) (hcn : cn ≤ 5) (hbC : ∀ i, i < cn → 0 ≤ (C.getD i (0, 0, 0)).1 ∧ (C.getD i (0, 0, 0)).1 ≤ (C.getD i (0, 0, 0)).2.1 ∧ (C.getD i (0, 0, 0)).2.1 ≤ 20 ∧ 0 ≤ (C.getD i (0, 0, 0)).2.2 ∧ (C.getD i (0, 0, 0)).2.2 ≤ 36000) (hT : T.length = n) (hn : n ≤ 40) (hbT : ∀ k, k < n → 0 ≤ (T.getD k (0, 0)).1 ∧ (T.getD k (0, 0)).1 < (T.getD k (0, 0)).2 ∧ (T.getD k (0, 0)).2 ≤ 36000) (hdue : 0 ≤ due ∧ due ≤ 36000) (hdl : 0 ≤ delay ∧ delay ≤ 36000) :
    ∀ (d : Nat) (B : List Nat) (bn bc : Nat) (ba : Option Addr) (w : World), bn + d = n → B.length = bn → (∀ j, j < bn → B.getD j 0 < cn) → Crew w ca C → Spans w ta T → Ints w ba (B.map fun r : Nat => (r : Int)) →
    Calls Try.prog 32 #[.agg #[.slice ca cn cc, .int .i64 due, .int .i64 delay], .slice ta n tc, .slice ba bn bc, .int .i64 no] w fun e w' => Below w.heap.size w w' ∧
      ((∃ (va : Option Addr) (vn vc : Nat) (X : List Nat), e = .returned (.tuple #[.slice va vn vc, .bool true]) ∧ X.length = vn ∧ Ints w' va (X.map fun r : Nat => (r : Int)) ∧ dfs (okM no due delay C T) cn d B = some X) ∨
       e = .returned (.tuple #[.slice none 0 0, .bool false]) ∧ dfs (okM no due delay C T) cn d B = none) := by
  have HC := hid hC
  have HT := hid hT
  have HBC := hid hbC
  have HBT := hid hbT
  clear hC hT hbC hbT
  obtain ⟨i3, hi3, hi3a, hi3b, hi3c⟩ := info_parts Try.info3
  intro d
  induction d with
  | zero =>
    intro B bn bc ba w hbn hB hBr hCr hST hI
    have hbn' : bn = n := by omega
    subst hbn'
    have HB := hid hB
    clear hBr hB
    have hownx : ((w.alloc (.cells #[.slice ca cn cc, .int .i64 due, .int .i64 delay] 27)).alloc (.cells #[] 3)).ownsRow (w.heap.size + 1) 3 1 (.slice (some ⟨w.heap.size + 1, 0, none⟩) 0 0) 0 [] := by
      have := empty_owned (w.alloc (.cells #[.slice ca cn cc, .int .i64 due, .int .i64 delay] 27)) (w.heap.size + 1) (by simp)
      simpa using this
    have hBx : Below w.heap.size w ((w.alloc (.cells #[.slice ca cn cc, .int .i64 due, .int .i64 delay] 27)).alloc (.cells #[] 3)) := ((Below.refl _ w).alloc (Nat.le_refl _) _).alloc (by simp) _
    have hIx := hI.grown hBx
    obtain ⟨BZ, hBZ⟩ : ∃ Z, (B.map fun r : Nat => (r : Int)) = Z := ⟨_, rfl⟩
    rw [hBZ] at hIx
    have HBZ : Hid (BZ.length = bn) := hid (by rw [← hBZ, List.length_map]; exact HB.out)
    have HBR := hid hBZ
    clear hBZ hI
    go_enter Try.func32, Try.ntmps32
    go_wp2_with (at_builtin; refine wpList_append_ints rfl _ _ 53 rfl (w.heap.size + 1) i3 Try.underlying53 hi3 hi3a hi3b hi3c _ 0 [] rfl hownx ba bn bc BZ rfl HBZ.out hIx (by omega) (by simp) ?_; intro v' w3 hown' hgrow; obtain ⟨va, vc, hv⟩ := owns_shape hown'; subst hv; have hB3 : Below w.heap.size w w3 := Below.grown hBx hgrow (by have := hBx.size; omega) (fun k e => by have := (hownx.lt k e).1; omega); clear hgrow)
    refine bodyPost_ret (v := .tuple #[.slice va bn vc, .bool true]) (by simp [results, Try.f32, go_sem]) rfl ⟨hB3, .inl ⟨va, bn, vc, B, rfl, HB.out, ?_, rfl⟩⟩
    rw [HBR.out]
    exact ints_of_owns1 HBZ.out (by simpa using hown')
  | succ d ih =>
    intro B bn bc ba w hbn hB hBr hCr hST hI
    have HB := hid hB
    have HBr := hid hBr
    have HIH := hid ih
    obtain ⟨z, hz⟩ : ∃ z, dfs (okM no due delay C T) cn (d + 1) B = z := ⟨_, rfl⟩
    obtain ⟨f, hf⟩ : ∃ f, (fun r => if okM no due delay C T (B ++ [r]) then dfs (okM no due delay C T) cn d (B ++ [r]) else none) = f := ⟨_, rfl⟩
    have HF : Hid (∀ r, f r = if (!decide ((r : Int) = no) && rotaOk due delay C T (B ++ [r]) bn) = true then dfs (okM no due delay C T) cn d (B ++ [r]) else none) := hid (fun r => by rw [← hf]; simp only [okM_last, HB.out])
    have HZ : Hid ((List.range cn).findSome? f = z) := hid (by rw [← hz, ← hf]; rfl)
    rw [hz]
    obtain ⟨BZ, hBZ⟩ : ∃ Z, (B.map fun r : Nat => (r : Int)) = Z := ⟨_, rfl⟩
    rw [hBZ] at hI
    have HBZ : Hid (BZ.length = bn) := hid (by rw [← hBZ, List.length_map]; exact hB)
    have HBR := hid hBZ
    clear hB hBr ih hz hf hBZ
    have hne : ((bn : Int) == (n : Int)) = false := by simp; omega
    go_enter Try.func32, Try.ntmps32
    go_wp2_with fail
    obtain ⟨W0, hW0⟩ : ∃ W, W = w.alloc (.cells #[.slice ca cn cc, .int .i64 due, .int .i64 delay] 27) := ⟨_, rfl⟩
    have hB0 : Below w.heap.size w W0 := by rw [hW0]; exact (Below.refl _ w).alloc (Nat.le_refl _) _
    have x0 : W0.cell? ⟨w.heap.size, 0, none⟩ = some (.slice ca cn cc) := by rw [hW0]; simp [go_sem]
    have x1 : W0.cell? ⟨w.heap.size, 1, none⟩ = some (.int .i64 due) := by rw [hW0]; simp [go_sem]
    have x2 : W0.cell? ⟨w.heap.size, 2, none⟩ = some (.int .i64 delay) := by rw [hW0]; simp [go_sem]
    have zW : W0.heap.size = w.heap.size + 1 := by rw [hW0]; simp
    rw [← hW0]
    clear hW0 hne
    go_loopw [10] (fun i wr => ∃ k : Nat, k ≤ cn ∧ i = .int .i64 k ∧ Hid (((List.range cn).drop k).findSome? f = z) ∧ Below W0.heap.size W0 wr) (fun i _ => cn - (intOf i).toNat)
    case atStart => exact ⟨0, Nat.zero_le _, rfl, hid (by rw [List.drop_zero]; exact HZ.out), Below.refl _ _⟩
    case round =>
      obtain ⟨k, hk, rfl, HK, hB⟩ := hrel
      have hzr := hB.size
      have hBw : Below w.heap.size w wr := hB0.trans (hB.mono (by omega))
      have y0 := cell_grown hB x0
      have y1 := cell_grown hB x1
      have y2 := cell_grown hB x2
      have gw : w.heap.size < wr.heap.size := by omega
      by_cases hlt : k < cn
      · have hkk : (k : Int) < cn := by omega
        have hstep := findSome_step (range_drop hlt) HK.out
        have HSP := hid hstep
        have HFk := hid (HF.out k)
        clear hstep HK
        have hownx : (wr.alloc (.cells #[] 3)).ownsRow wr.heap.size 3 1 (.slice (some ⟨wr.heap.size, 0, none⟩) 0 0) 0 [] := empty_owned wr wr.heap.size (Nat.le_refl _)
        have hBx : Below wr.heap.size wr (wr.alloc (.cells #[] 3)) := (Below.refl _ wr).alloc (Nat.le_refl _) _
        have hIx := hI.grown (hBw.trans (hBx.mono hBw.size))
        by_cases hno : (k : Int) = no
        · have hb : ((k : Int) == no) = true := by simpa using hno
          have hfk : f k = none := by rw [HFk.out]; simp [hno]
          clear hno
          go_wp2_with (at_builtin; first | (refine wpList_append_ints rfl _ _ 53 rfl wr.heap.size i3 Try.underlying53 hi3 hi3a hi3b hi3c _ 0 [] rfl hownx ba bn bc BZ rfl HBZ.out hIx (by omega) (by simp) ?_; intro v1 wa hown1' hgrow1; obtain ⟨va1, vc1, hv1⟩ := owns_shape hown1'; subst hv1; have hBa : Below wr.heap.size wr wa := Below.grown hBx hgrow1 hBx.size (fun k e => by have := (hownx.lt k e).1; omega); have hown1 : wa.ownsRow wr.heap.size 3 1 (.slice va1 bn vc1) bn (flat1 BZ) := by simpa using hown1') | (refine wpList_append_ints rfl _ _ 53 rfl wr.heap.size i3 Try.underlying53 hi3 hi3a hi3b hi3c _ bn _ rfl (hown1.alloc _) (some ⟨wa.heap.size, 0, none⟩) 1 1 [(k : Int)] rfl rfl (ints_one wa k _ rfl) (by omega) (by have := hBa.size; simp; omega) ?_; intro v2 wb hown2 hgrow2; obtain ⟨va2, vc2, hv2⟩ := owns_shape hown2; subst hv2; have hBb := below_of_grown hBa hown1 hgrow2 hBa.size; replace y0 := cell_grown hBb y0; replace y1 := cell_grown hBb y1; replace y2 := cell_grown hBb y2))
          go_roundw
          case rel => exact ⟨k + 1, by omega, by go_num, hid (HSP.out.2 hfk), hB.trans (hBb.mono hB.size)⟩
          case measure => simp [intOf]; omega
        · have hb : ((k : Int) == no) = false := by simpa using hno
          go_wp2_with (at_builtin; first | (refine wpList_append_ints rfl _ _ 53 rfl wr.heap.size i3 Try.underlying53 hi3 hi3a hi3b hi3c _ 0 [] rfl hownx ba bn bc BZ rfl HBZ.out hIx (by omega) (by simp) ?_; intro v1 wa hown1' hgrow1; obtain ⟨va1, vc1, hv1⟩ := owns_shape hown1'; subst hv1; have hBa : Below wr.heap.size wr wa := Below.grown hBx hgrow1 hBx.size (fun k e => by have := (hownx.lt k e).1; omega); have hown1 : wa.ownsRow wr.heap.size 3 1 (.slice va1 bn vc1) bn (flat1 BZ) := by simpa using hown1') | (refine wpList_append_ints rfl _ _ 53 rfl wr.heap.size i3 Try.underlying53 hi3 hi3a hi3b hi3c _ bn _ rfl (hown1.alloc _) (some ⟨wa.heap.size, 0, none⟩) 1 1 [(k : Int)] rfl rfl (ints_one wa k _ rfl) (by omega) (by have := hBa.size; simp; omega) ?_; intro v2 wb hown2 hgrow2; obtain ⟨va2, vc2, hv2⟩ := owns_shape hown2; subst hv2; have hBb := below_of_grown hBa hown1 hgrow2 hBa.size; replace y0 := cell_grown hBb y0; replace y1 := cell_grown hBb y1; replace y2 := cell_grown hBb y2))
          have hIZ : Ints wb va2 (((B ++ [k]).map fun r : Nat => (r : Int))) := by
            rw [List.map_append, HBR.out]
            exact ints_of_owns1 (n := bn + 1) (by simp [HBZ.out]) (by simpa [flat1] using hown2)
          have hl2 : (B ++ [k]).length = bn + 1 := by rw [List.length_append, HB.out]; rfl
          have hBr2 : ∀ j, j < bn + 1 → (B ++ [k]).getD j 0 < cn := fun j hj => by
            by_cases e : j = bn
            · subst e
              rw [List.getD_eq_getElem?_getD, List.getElem?_append_right (by rw [HB.out]; exact Nat.le_refl _), HB.out, Nat.sub_self]
              exact hlt
            · have := HBr.out j (by omega)
              rw [List.getD_eq_getElem?_getD, List.getElem?_append_left (by rw [HB.out]; omega)]
              rwa [List.getD_eq_getElem?_getD] at this
          have hBwb := hBw.trans (hBb.mono hBw.size)
          have HL2 := hid hl2
          have HR2 := hid hBr2
          clear hl2 hBr2 hownx hBx hIx hown1 hown1' hown2 hgrow1 hgrow2 hBa
          refine (mayR_any C T ((B ++ [k]).map fun r : Nat => (r : Int)) due delay bn (bn + 1) cn cc n tc vc2 rfl ca ta va2 _ HC.out hcn (hCr.grown hBwb) HBC.out HT.out hn (hST.grown hBwb) HBT.out (by omega) (by rw [List.length_map, HL2.out]; omega) hIZ (fun j hj => by
            rw [map_nat_get (by rw [HL2.out]; omega)]
            have := HR2.out j (by omega)
            omega) hdue hdl).mono ?_
          rw [map_map_nat]
          obtain ⟨mb, hmb⟩ : ∃ b, rotaOk due delay C T (B ++ [k]) bn = b := ⟨_, rfl⟩
          rw [hmb]
          rintro e w4 ⟨rfl, hb4⟩
          have hfm := HFk.out
          rw [hmb] at hfm
          clear hmb
          have hBw4 := hBwb.trans (hb4.mono hBwb.size)
          have hB4 : Below W0.heap.size W0 w4 := hB.trans ((hBb.trans (hb4.mono hBb.size)).mono hB.size)
          replace y0 := cell_grown hb4 y0
          replace y1 := cell_grown hb4 y1
          replace y2 := cell_grown hb4 y2
          cases mb
          · have hfk : f k = none := by rw [hfm]; simp
            go_wp2_with fail
            go_roundw
            case rel => exact ⟨k + 1, by omega, by go_num, hid (HSP.out.2 hfk), hB4⟩
            case measure => simp [intOf]; omega
          · have hfk : f k = dfs (okM no due delay C T) cn d (B ++ [k]) := by rw [hfm]; simp [hno]
            have HFK := hid hfk
            clear hfk hfm
            go_wp2_with fail
            refine (HIH.out (B ++ [k]) (bn + 1) vc2 va2 w4 (by omega) HL2.out HR2.out (hCr.grown hBw4) (hST.grown hBw4) (hIZ.grown hb4)).mono ?_
            rintro e w5 ⟨hb5, ⟨va, vn, vc, X, rfl, hX, hIX, hd⟩ | ⟨rfl, hd⟩⟩
            · have hzX : z = some X := HSP.out.1 X (by rw [HFK.out]; exact hd)
              have HIX := hid hIX
              clear hIX hd
              go_wp2_with fail
              exact bodyPost_ret (v := .tuple #[.slice va vn vc, .bool true]) (by simp [results, Try.f32, go_sem]) rfl ⟨hBw4.trans (hb5.mono hBw4.size), .inl ⟨va, vn, vc, X, rfl, hX, HIX.out, hzX⟩⟩
            · have hfk : f k = none := by rw [HFK.out]; exact hd
              clear hd
              go_wp2_with fail
              go_roundw
              case rel => exact ⟨k + 1, by omega, by go_num, hid (HSP.out.2 hfk), hB4.trans (hb5.mono hB4.size)⟩
              case measure => simp [intOf]; omega
      · have hkn : k = cn := by omega
        subst hkn
        have hzn : z = none := by rw [← HK.out, List.drop_eq_nil_of_le (by simp)]; rfl
        go_wp2
        exact bodyPost_ret (v := .tuple #[.slice none 0 0, .bool false]) (by simp [results, Try.f32, go_sem]) rfl ⟨hBw, .inr ⟨rfl, hzn⟩⟩

end Go.Proofs.Ytgapbaelifcifaa
