/- Mend: the question whether a request meddles with words of others; worlds that only grew; parts of lists. Mend: the texts of some words; whether a row of marks may become another one. -/
import Derived.Test.YtbampfkmgjfofaaGreatDoorX
import Derived.BigQuiet
import Derived.Sort.AtCall
namespace Go.Proofs.YtbampfkmgjfofaaGreatDoor
open Go.RowKit

/-- A world that grew from W. -/
structure Over (W : World) where
  w : World
  h : Below W.heap.size W w

instance overInhabited {W : World} : Inhabited (Over W) := ⟨⟨W, Below.refl _ _⟩⟩

theorem Over.cell {W : World} (p : Over W) {b off : Nat} {v : Value} (h : W.cell? ⟨b, off, none⟩ = some v) : p.w.cell? ⟨b, off, none⟩ = some v := cell_grown p.h h

theorem wp_region_over {P : Program} {id : Nat} {Q : Exit → Act → World → Prop} {a : Act} {w : World} {l : List Oper} (W : World) (hw : Below W.heap.size W w)
    (hm : P.follows .mixedOrders = true) (hB : Region.lexB .any l.toArray = true)
    (h : wpQuiet P l.toArray (fun w' => ∃ p : Over W, w' = p.w) (fun a' => ∀ w', (∃ p : Over W, w' = p.w) → Q .normal a' w') l a) :
    (Code.region id l.toArray true).wp P Q a w :=
  wp_region_quiet (C := fun w' => ∃ p : Over W, w' = p.w) hm hB ⟨⟨_, hw.drew⟩, rfl⟩ (by simpa using h)

theorem Calls.over_of {P : Program} {f : FuncId} {args : Array Value} {W : World} {p : Over W} {v : Value}
    (h : Calls P f args p.w fun e w' => e = .returned v ∧ Below p.w.heap.size p.w w') :
    Calls P f args p.w fun e w'' => e = .returned v ∧ ∃ q : Over W, w'' = q.w :=
  h.mono fun _ _ ⟨he, hb⟩ => ⟨he, ⟨⟨_, p.h.trans (hb.mono p.h.size)⟩, rfl⟩⟩

theorem over_below {W w' : World} (h : ∃ p : Over W, w' = p.w) : Below W.heap.size W w' := by
  obtain ⟨p, rfl⟩ := h
  exact p.h

/-- Where a part of a slice begins. -/
def subA (a : Option Addr) (cap l s : Nat) : Option Addr := if cap = l then a else a.map (·.add (l * s))

theorem Tryz.elem60 : Tryz.prog.elem 60 = 104 := by kernel_rfl

theorem slice60 (a : Option Addr) (n cap l h : Nat) (h1 : l ≤ h) (h2 : h ≤ cap) (W : World) :
    (Instr.slice 60 (.slice a n cap) (some (.int .i64 (l : Int))) (some (.int .i64 (h : Int))) none).run Tryz.prog W = .ok (.slice (subA a cap l 2) (h - l) (cap - l)) W := by
  rw [run_slice_lh (t := 60) (a := a) (len := n) (cap := cap) (ht := by rw [Tryz.elem60]; exact Tryz.underlying60) (kl := .i64) (kh := .i64) (l := (l : Int)) (h := (h : Int)) (h0 := by omega) (h1 := by omega) (h2 := by omega)]
  have hs : (sizeOf (Tryz.prog.elem 60)).run Tryz.prog W = .ok 2 W := by rw [Tryz.elem60]; exact Tryz.sizeOf104 W
  rw [hs]
  simp only [Result.andThen, sliced, Int.toNat_natCast]
  rfl

theorem Nums.part {w : World} {a : Option Addr} {R : List (Tx × Int)} (h : Nums w a R) {n cap : Nat} (hn : R.length = n) (hc : n ≤ cap) (l k : Nat) (hlk : l + k ≤ n) : Nums w (subA a cap l 2) ((R.drop l).take k) := by
  intro i hi
  have hk : i < k := by rw [List.length_take] at hi; omega
  obtain ⟨b, off, ha, h1, h2⟩ := h (l + i) (by omega)
  have hg : ((R.drop l).take k).getD i (.empty, 0) = R.getD (l + i) (.empty, 0) := by
    simp only [List.getD_eq_getElem?_getD, List.getElem?_take, if_pos hk, List.getElem?_drop]
  refine ⟨b, off + l * 2, ?_, ?_, ?_⟩
  · unfold subA
    rw [if_neg (by omega), ha]
    simp [Addr.add]
  · rw [hg, ← h1]
    congr 2
    omega
  · rw [hg, ← h2]
    congr 2
    omega

theorem part_length {α : Type} {R : List α} {n l k : Nat} (hn : R.length = n) (hlk : l + k ≤ n) : ((R.drop l).take k).length = k := by
  rw [List.length_take, List.length_drop]
  omega

set_option maxHeartbeats 400000 in
theorem own_any (s : Tx) (v : Int) (kb : Nat) (x : Ask) (w : World) (hA : AskAt w kb x) :
    Calls Tryz.prog 138 #[.agg #[.string s, .int .i64 v], .pointer (some ⟨kb, 0, none⟩)] w fun e w' => e = .returned (.bool (decide (v = x.b))) ∧ Below w.heap.size w w' := by
  have hB := below_alloc w (.cells #[.string s, .int .i64 v] 104)
  have c0 := (hA.grown hB).c0
  have lt := lt_of_cell c0
  go_enter Tryz.func138, Tryz.ntmps138
  go_wp2
  go_ret
  exact ⟨by first | rfl | (congr 2; exact Bool.beq_eq_decide_eq _ _) | simp, hB⟩

/-- Are words of others among them? If it replaces none: at both sides? -/
def meddlesM (R : List (Tx × Int)) (b : Int) (l k : Nat) : Bool :=
  if 0 < k then !((R.drop l).take k).all fun n => decide (n.2 = b)
  else !((R.drop (l - 1)).take (min (l + 1) R.length - (l - 1))).any fun n => decide (n.2 = b)

theorem allOwn_any (R : List (Tx × Int)) (n cap kb : Nat) (a : Option Addr) (x : Ask) (w : World) (hR : R.length = n) (hn : n ≤ maxLen) (hS : Nums w a R) (hA : AskAt w kb x) :
    Calls Tryz.prog 76 #[.slice a n cap, .func (.func 138) #[] #[.pointer (some ⟨kb, 0, none⟩)]] w fun e w' => e = .returned (.bool (R.all fun n => decide (n.2 = x.b))) ∧ Below w.heap.size w w' := by
  have h := allSaid_any (fun i => decide ((R.getD i (.empty, 0)).2 = x.b)) (fun i => (R.getD i (.empty, 0)).1) (fun i => (R.getD i (.empty, 0)).2) 138 #[.pointer (some ⟨kb, 0, none⟩)] (enters_of Tryz.func138 (by kernel_rfl) rfl) n cap a w hn
    (fun i hi => hS i (by omega)) (fun i _ W hW => own_any _ _ kb x W (hA.grown hW))
  rw [← hR, allN_list R (.empty, 0) (fun n => decide (n.2 = x.b))] at h
  rw [← hR]
  exact h

theorem anyOwn_any (R : List (Tx × Int)) (n cap kb : Nat) (a : Option Addr) (x : Ask) (w : World) (hR : R.length = n) (hn : n ≤ maxLen) (hS : Nums w a R) (hA : AskAt w kb x) :
    Calls Tryz.prog 109 #[.slice a n cap, .func (.func 138) #[] #[.pointer (some ⟨kb, 0, none⟩)]] w fun e w' => e = .returned (.bool (R.any fun n => decide (n.2 = x.b))) ∧ Below w.heap.size w w' := by
  have h := containsSaid_any (fun i => decide ((R.getD i (.empty, 0)).2 = x.b)) (fun i => (R.getD i (.empty, 0)).1) (fun i => (R.getD i (.empty, 0)).2) 138 #[.pointer (some ⟨kb, 0, none⟩)] (enters_of Tryz.func138 (by kernel_rfl) rfl) n cap a w hn
    (fun i hi => hS i (by omega)) (fun i _ W hW => (own_any _ _ kb x W (hA.grown hW)).mono fun e w' h => ⟨h.1, below_then hW h.2⟩)
  rw [← hR, anyN_list R (.empty, 0) (fun n => decide (n.2 = x.b))] at h
  rw [← hR]
  exact h

set_option maxRecDepth 100000 in
set_option maxHeartbeats 2000000 in
theorem meddles_any (hb : Nat) (wa : Option Addr) (wn wc : Nat) (R : List (Tx × Int)) (x : Ask) (l k : Nat) (w : World) (h0 : w.cell? ⟨hb, 0, none⟩ = some (.slice wa wn wc)) (hR : R.length = wn) (hw : wn ≤ 80) (hcap : wn ≤ wc) (hS : Nums w wa R)
    (hl : x.f = l) (hk : x.c = k) (hlk : l + k ≤ wn) :
    Calls Tryz.prog 114 #[.pointer (some ⟨hb, 0, none⟩), askV x] w fun e w' => e = .returned (.bool (meddlesM R x.b l k)) ∧ Below w.heap.size w w' := by
  obtain ⟨z, hz⟩ : ∃ z, meddlesM R x.b l k = z := ⟨_, rfl⟩
  rw [hz]
  have HZ := hid hz
  clear hz
  obtain ⟨W1, hW1⟩ : ∃ W, W = w.alloc (askO x) := ⟨_, rfl⟩
  have hB : Below w.heap.size w W1 := by rw [hW1]; exact below_alloc w _
  have hA : AskAt W1 w.heap.size x := by rw [hW1]; exact AskAt.new w x
  have g0 := cell_grown hB h0
  have hS1 := hS.grown hB
  clear hS h0
  obtain ⟨xb, xm, xf, xc, pa, pn, pc, xi⟩ := x
  simp only at hl hk
  subst hl hk
  have HR := hid hR
  clear hR
  have c2 := hA.c2
  have c3 := hA.c3
  have hc3 := c3
  rw [hW1] at hc3
  unfold askO at hW1 hc3
  unfold askV
  simp only at *
  go_enter Tryz.func114, Tryz.ntmps114
  by_cases h1 : 0 < k
  · have h1' : (0 : Int) < (k : Int) := by omega
    have HZ2 : Hid (z = !((R.drop l).take k).all fun n => decide (n.2 = xb)) := hid (by rw [← HZ.out, meddlesM, if_pos h1])
    have hsl := fun W => slice60 wa wn wc l (l + k) (by omega) (by omega) W
    rw [show l + k - l = k by omega] at hsl
    rw [show ((l + k : Nat) : Int) = (l : Int) + (k : Int) by omega] at hsl
    go_wp2_with fail
    rw [← hW1]
    clear hW1 hc3
    have o0 : ∀ p : Over W1, p.w.cell? ⟨hb, 0, none⟩ = some (.slice wa wn wc) := fun p => p.cell g0
    have k0 : ∀ p : Over W1, p.w.cell? ⟨w.heap.size, 0, none⟩ = some (.int .i64 xb) := fun p => p.cell hA.c0
    have k1 : ∀ p : Over W1, p.w.cell? ⟨w.heap.size, 1, none⟩ = some (.int .i64 xm) := fun p => p.cell hA.c1
    have k2 : ∀ p : Over W1, p.w.cell? ⟨w.heap.size, 2, none⟩ = some (.int .i64 (l : Int)) := fun p => p.cell hA.c2
    have k3 : ∀ p : Over W1, p.w.cell? ⟨w.heap.size, 3, none⟩ = some (.int .i64 (k : Int)) := fun p => p.cell hA.c3
    have k4 : ∀ p : Over W1, p.w.cell? ⟨w.heap.size, 4, none⟩ = some (.slice pa pn pc) := fun p => p.cell hA.c4
    have k5 : ∀ p : Over W1, p.w.cell? ⟨w.heap.size, 5, none⟩ = some (.int .i64 (xi : Int)) := fun p => p.cell hA.c5
    have hend : ∀ W, Calls Tryz.prog 91 #[.agg #[.int .i64 xb, .int .i64 xm, .int .i64 (l : Int), .int .i64 (k : Int), .slice pa pn pc, .int .i64 (xi : Int)]] W fun e w' => e = .returned (.int .i64 ((l : Int) + k)) ∧ Below W.heap.size W w' := fun W => end_any ⟨xb, xm, l, k, pa, pn, pc, xi⟩ W (by show I64 ((l : Int) + (k : Int)); unfold I64; omega)
    have hall : ∀ p : Over W1, Calls Tryz.prog 76 #[.slice (subA wa wc l 2) k (wc - l), .func (.func 138) #[] #[.pointer (some ⟨w.heap.size, 0, none⟩)]] p.w fun e w' => e = .returned (.bool (((R.drop l).take k).all fun n => decide (n.2 = xb))) ∧ Below p.w.heap.size p.w w' := fun p =>
      allOwn_any ((R.drop l).take k) k (wc - l) w.heap.size (subA wa wc l 2) ⟨xb, xm, l, k, pa, pn, pc, xi⟩ p.w (part_length HR.out hlk) (by unfold maxLen; omega) ((hS1.grown p.h).part HR.out hcap l k hlk) (hA.grown p.h)
    generalize (((R.drop l).take k).all fun n => decide (n.2 = xb)) = zz at HZ2 hall
    refine wp_region_over W1 (Below.refl _ _) (by kernel_rfl) (by kernel_rfl) ?_
    repeat (go_big_quiet_step (first | (go_at_call 91; exact Calls.over_of (hend _)) | (go_at_call 76; exact Calls.over_of (hall _))))
    refine wpQuiet_nil ?_
    intro wz hw'
    have hbz := over_below hw'
    clear hw' o0 k0 k1 k2 k3 k4 k5 hend hall
    go_wp2
    go_ret
    exact ⟨by rw [HZ2.out]; rfl, below_then hB hbz⟩
  · have hk0 : k = 0 := by omega
    have h1' : ¬ (0 : Int) < (k : Int) := by omega
    have HZ2 : Hid (z = !((R.drop (l - 1)).take (min (l + 1) R.length - (l - 1))).any fun n => decide (n.2 = xb)) := hid (by rw [← HZ.out, meddlesM, if_neg h1])
    obtain ⟨u, hu⟩ : ∃ u, u = min (l + 1) wn - (l - 1) := ⟨_, rfl⟩
    have hsl := fun W => slice60 wa wn wc (l - 1) (l - 1 + u) (by omega) (by omega) W
    rw [show l - 1 + u - (l - 1) = u by omega, show ((l - 1 + u : Nat) : Int) = min ((l : Int) + 1) (wn : Int) by omega, show ((l - 1 : Nat) : Int) = max ((l : Int) - 1) 0 by omega] at hsl
    have HU := hid hu
    clear hk0 hu
    go_wp2_with fail
    rw [← hW1]
    clear hW1 hc3
    have o0 : ∀ p : Over W1, p.w.cell? ⟨hb, 0, none⟩ = some (.slice wa wn wc) := fun p => p.cell g0
    have k2 : ∀ p : Over W1, p.w.cell? ⟨w.heap.size, 2, none⟩ = some (.int .i64 (l : Int)) := fun p => p.cell hA.c2
    refine wp_region_over W1 (Below.refl _ _) (by kernel_rfl) (by kernel_rfl) ?_
    repeat (go_big_quiet_step (fail))
    refine wpQuiet_nil ?_
    intro wz hw'
    have hbz := over_below hw'
    clear hw' o0 k2 hsl
    have hany := anyOwn_any ((R.drop (l - 1)).take u) u (wc - (l - 1)) w.heap.size (subA wa wc (l - 1) 2) ⟨xb, xm, l, k, pa, pn, pc, xi⟩ wz (part_length HR.out (by have := HU.out; omega)) (by have := HU.out; unfold maxLen; omega) ((hS1.grown hbz).part HR.out hcap (l - 1) u (by have := HU.out; omega)) (hA.grown hbz)
    have HZ3 : Hid (z = !((R.drop (l - 1)).take u).any fun n => decide (n.2 = xb)) := hid (by rw [HZ2.out, HR.out, HU.out])
    clear HZ2
    simp only at hany
    generalize (((R.drop (l - 1)).take u).any fun n => decide (n.2 = xb)) = zz at HZ3 hany
    go_wp2_with (go_at_call 109; refine hany.mono ?_; rintro e w' ⟨rfl, hb3⟩)
    go_ret
    exact ⟨by rw [HZ3.out]; rfl, below_then (below_then hB hbz) hb3⟩

end Go.Proofs.YtbampfkmgjfofaaGreatDoor

namespace Go.Proofs.YtbampfkmgjfofaaGreatDoor
open Go.RowKit

/-- The texts of k words, from l on. -/
def textsM (R : List (Tx × Int)) (l k : Nat) : List Tx := ((R.drop l).take k).map (·.1)

theorem textsM_length {R : List (Tx × Int)} {n l k : Nat} (hn : R.length = n) (hlk : l + k ≤ n) : (textsM R l k).length = k := by
  rw [textsM, List.length_map, part_length hn hlk]

theorem Tryz.info9 : (Tryz.prog.info? 9).map (fun i => (i.zero, i.size, i.bytes)) = some (some (.string .empty), 1, 16) := by kernel_rfl

/-- What texts returns, with its memory. -/
def TextsPost (R : List (Tx × Int)) (l k : Nat) (w : World) (e : Ending) (w' : World) : Prop :=
  ∃ ra rc, e = .returned (.slice ra k rc) ∧ w'.ownsRow w.heap.size 9 1 (.slice ra k rc) k (flatV strC (textsM R l k)) ∧ Below w.heap.size w w'

set_option maxRecDepth 100000 in
set_option maxHeartbeats 2000000 in
theorem texts_any (hb : Nat) (wa : Option Addr) (wn wc : Nat) (R : List (Tx × Int)) (l k : Nat) (w : World) (h0 : w.cell? ⟨hb, 0, none⟩ = some (.slice wa wn wc)) (hR : R.length = wn) (hw : wn ≤ 80) (hcap : wn ≤ wc) (hS : Nums w wa R) (hlk : l + k ≤ wn) :
    Calls Tryz.prog 84 #[.pointer (some ⟨hb, 0, none⟩), .int .i64 (l : Int), .int .i64 ((l : Int) + k)] w (TextsPost R l k w) := by
  have hS2 := hS.part hR hcap l k hlk
  have hlen := part_length hR hlk
  have HTM : Hid (textsM R l k = ((R.drop l).take k).map (·.1)) := rfl
  generalize (R.drop l).take k = D at hS2 hlen HTM
  have HD := hid hlen
  have HSA : Aside _ := hS2
  clear hlen hS2 hS
  have hsl := fun W => slice60 wa wn wc l (l + k) (by omega) (by omega) W
  rw [show l + k - l = k by omega, show ((l + k : Nat) : Int) = (l : Int) + (k : Int) by omega] at hsl
  obtain ⟨sa, hsa⟩ : ∃ sa, sa = subA wa wc l 2 := ⟨_, rfl⟩
  rw [← hsa] at hsl HSA
  clear hsa
  obtain ⟨i0, hi, hz0, hz1, hz2⟩ := info_parts Tryz.info9
  have g0 := lt_of_cell h0
  go_enter Tryz.func84, Tryz.ntmps84
  go_wp2_with fail
  go_loopw [7, 19] (fun v i wr => ∃ (j : Nat) (pre : List Tx), j ≤ k ∧ i = .int .i64 j ∧ Hid (pre = (D.take j).map (·.1)) ∧ Hid (pre.length = j) ∧ wr.ownsRow w.heap.size 9 1 v j (flatV strC pre) ∧ Below w.heap.size w wr) (fun _ i _ => k - (intOf i).toNat)
  case atStart => exact ⟨0, [], Nat.zero_le _, rfl, rfl, rfl, World.ownsRow_nil _ _ _ _, Below.refl _ _⟩
  case round =>
    obtain ⟨j, pre, hj, rfl, HP, HK, hown, hB⟩ := hrel
    have hz := hB.size
    by_cases hlt : j < k
    · obtain ⟨ab, off, rfl, e0, e1⟩ := HSA.out j (by rw [HD.out]; exact hlt)
      replace e0 := cell_grown hB e0
      replace e1 := cell_grown hB e1
      have gb := lt_of_cell e0
      obtain ⟨q, hq⟩ : ∃ q, D.getD j (.empty, 0) = q := ⟨_, rfl⟩
      rw [hq] at e0 e1
      have HQ := hid hq
      clear hq
      obtain ⟨q1, q2⟩ := q
      simp only at e0 e1
      have hnew : ∀ jj u, [(.string q1 : Value)][jj]? = some u → ((wr.alloc (.cells #[.string q1, .int .i64 q2] 104)).alloc (.cells #[.string q1] 9)).cell? ((⟨wr.heap.size + 1, 0, none⟩ : Addr).add jj) = some u := by
        have := cells_new (wr.alloc (.cells #[.string q1, .int .i64 q2] 104)) #[.string q1] 9
        rwa [World.size_alloc] at this
      have HN := hid hnew
      clear hnew
      go_wp2_with (at_builtin; refine wpList_append_own _ rfl _ _ 24 rfl w.heap.size 9 i0 (.string .empty) 1 16 Tryz.underlying24 hi hz0 hz1 hz2 rfl (by decide) _ _ _ rfl ((hown.alloc _).alloc _) ⟨wr.heap.size + 1, 0, none⟩ 1 1 [.string q1] rfl rfl HN.out (fun x hx => by simp at hx; subst hx; rfl) (by unfold maxLen; omega) (by omega) (by simp; omega) ?_; intro v' w5 hown' hgrow5 hnil5; have hb5 := below_of_grown (hB.alloc hz _) (hown.alloc _) hgrow5 (by simp; omega))
      go_roundw
      case rel => exact ⟨j + 1, pre ++ [q1], by omega, by go_num, hid (by
          have hjd : j < D.length := by rw [HD.out]; exact hlt
          have hx : D[j] = (q1, q2) := by rw [← HQ.out, List.getD_eq_getElem?_getD, List.getElem?_eq_getElem hjd, Option.getD_some]
          rw [HP.out, List.take_add_one, List.map_append, List.getElem?_eq_getElem hjd, hx]
          rfl), hid (by rw [List.length_append, HK.out]; rfl), by rw [flatV_snoc]; exact hown', hb5⟩
      case measure => simp [intOf]; omega
    · have hkn : j = k := by omega
      have HP2 : Hid (pre = textsM R l k) := hid (by rw [HP.out, HTM.out, List.take_of_length_le (by rw [HD.out]; omega)])
      subst hkn
      clear HP HK hlt
      obtain ⟨ra, rc, rfl⟩ := owns_shape hown
      have HO := hid hown
      clear hown
      go_wp2
      go_ret
      have h := HO.out
      rw [HP2.out] at h
      exact ⟨ra, rc, rfl, h, hB⟩

/-- May the row of marks become the other one? -/
def keepsM (S : List (Int × Int × Int)) (A B : List (Int × Int)) : Bool := decide (A.length = B.length) && allN A.length fun i => mayM S (A.getD i (0, 0)) (B.getD i (0, 0))

set_option maxRecDepth 100000 in
set_option maxHeartbeats 2000000 in
theorem equal_any (S : List (Int × Int × Int)) (mv : Option Nat) (sn sc : Nat) (sa : Option Addr) (A B : List (Int × Int)) (n m nc mc : Nat) (aa ba : Option Addr) (w : World) (hs : S.length = sn) (hsn : sn ≤ maxLen) (hS : SwapsAt w sa S)
    (hA : A.length = n) (hn : n ≤ 100) (hAm : Marks w aa A) (hB : B.length = m) (hm : m ≤ 100) (hBm : Marks w ba B) :
    Calls Tryz.prog 156 #[.slice aa n nc, .slice ba m mc, .func (.func 75) #[.agg #[.map mv, .slice sa sn sc]] #[]] w fun e w' => e = .returned (.bool (keepsM S A B)) ∧ Below w.heap.size w w' := by
  obtain ⟨z, hz⟩ : ∃ z, keepsM S A B = z := ⟨_, rfl⟩
  rw [hz]
  have HZ : Hid ((decide (n = m) && allN n fun i => mayM S (A.getD i (0, 0)) (B.getD i (0, 0))) = z) := hid (by rw [← hz, keepsM, hA, hB])
  clear hz
  have HS := hid hs; have HA := hid hA; have HB := hid hB
  clear hs hA hB
  go_enter Tryz.func156, Tryz.ntmps156
  by_cases hnm : n = m
  · subst hnm
    have HZ2 : Hid ((allN n fun i => mayM S (A.getD i (0, 0)) (B.getD i (0, 0))) = z) := hid (by rw [← HZ.out]; simp)
    clear HZ
    go_wp2_with fail
    go_loopw [17] (fun i wr => ∃ k : Nat, k ≤ n ∧ i = .int .i64 k ∧ Hid (∀ j, j < k → mayM S (A.getD j (0, 0)) (B.getD j (0, 0)) = true) ∧ Below w.heap.size w wr) (fun i _ => n - (intOf i).toNat)
    case atStart => exact ⟨0, Nat.zero_le _, rfl, hid (fun j h => by omega), Below.refl _ _⟩
    case round =>
      obtain ⟨k, hk, rfl, HF, hb⟩ := hrel
      have hz := hb.size
      by_cases hlt : k < n
      · obtain ⟨ab, off, rfl, e0, e1⟩ := hAm k (by rw [HA.out]; exact hlt)
        obtain ⟨bb, boff, rfl, d0, d1⟩ := hBm k (by rw [HB.out]; exact hlt)
        replace e0 := cell_grown hb e0
        replace e1 := cell_grown hb e1
        replace d0 := cell_grown hb d0
        replace d1 := cell_grown hb d1
        have ga := lt_of_cell e0
        have gb := lt_of_cell d0
        obtain ⟨x, hx⟩ : ∃ x, A.getD k (0, 0) = x := ⟨_, rfl⟩
        obtain ⟨y, hy⟩ : ∃ y, B.getD k (0, 0) = y := ⟨_, rfl⟩
        rw [hx] at e0 e1
        rw [hy] at d0 d1
        have HX := hid hx
        have HY := hid hy
        clear hx hy
        obtain ⟨x1, x2⟩ := x
        obtain ⟨y1, y2⟩ := y
        simp only at e0 e1 d0 d1
        obtain ⟨W2, hW2⟩ : ∃ W, W = (wr.alloc (.cells #[.int .u8 x1, .int .i64 x2] 95)).alloc (.cells #[.int .u8 y1, .int .i64 y2] 95) := ⟨_, rfl⟩
        have hB2 : Below w.heap.size w W2 := by rw [hW2]; exact (hb.alloc hz _).alloc (by simp; omega) _
        have hmay := may_any S mv sn sc sa (x1, x2) (y1, y2) W2 HS.out hsn (hS.grown hB2)
        cases hv : mayM S (x1, x2) (y1, y2)
        · have hzf : z = false := by
            rw [← HZ2.out]
            cases hall : allN n fun i => mayM S (A.getD i (0, 0)) (B.getD i (0, 0))
            · rfl
            · have := (allN_of n _).1 hall k hlt
              rw [HX.out, HY.out, hv] at this
              cases this
          rw [hv] at hmay
          clear hv HZ2
          go_wp2_with fail
          rw [← hW2]
          clear hW2
          refine hmay.mono ?_
          rintro e w3 ⟨rfl, hb3⟩
          go_wp2
          go_ret
          exact ⟨by rw [hzf]; rfl, below_then hB2 hb3⟩
        · have HV := hid hv
          rw [hv] at hmay
          clear hv
          go_wp2_with fail
          rw [← hW2]
          clear hW2
          refine hmay.mono ?_
          rintro e w3 ⟨rfl, hb3⟩
          go_wp2
          go_roundw
          case rel => exact ⟨k + 1, by omega, by go_num, hid (fun j hj => by
            by_cases e : j = k
            · subst e; rw [HX.out, HY.out]; exact HV.out
            · exact HF.out j (by omega)), below_then hB2 hb3⟩
          case measure => simp [intOf]; omega
      · have hkn : k = n := by omega
        subst hkn
        have hzt : z = true := by rw [← HZ2.out]; exact (allN_of k _).2 HF.out
        clear HF HZ2 hlt
        go_wp2
        go_ret
        exact ⟨by rw [hzt]; rfl, hb⟩
  · have hzf : z = false := by rw [← HZ.out]; simp [hnm]
    have h1 : ((n : Int) != (m : Int)) = true := by simp; omega
    clear HZ hnm
    go_wp2
    go_ret
    exact ⟨by rw [hzf]; rfl, Below.refl _ _⟩

end Go.Proofs.YtbampfkmgjfofaaGreatDoor
