/- Tongue: terms, of which each two agree; the error of terms. -/
import Derived.Test.YtohahlnhbppnhaaCP
import Derived.Test.YtohahlnhbppnhaaBU
import Derived.WalkMore
namespace Go.Proofs.Ytohahlnhbppnhaa
open Go.RowKit
set_option linter.unusedSimpArgs false
set_option linter.unusedVariables false

theorem Try.elem95 : Try.prog.elem 95 = 94 := by kernel_rfl

theorem slice95h (a : Option Addr) (n cap h : Nat) (h2 : h ≤ cap) (W : World) :
    (Instr.slice 95 (.slice a n cap) none (some (.int .i64 (h : Int))) none).run Try.prog W = .ok (.slice (subA a cap 0 3) h cap) W := by
  rw [run_slice_h (t := 95) (a := a) (len := n) (cap := cap) (ht := by rw [Try.elem95]; exact Try.underlying95) (kh := .i64) (h := (h : Int)) (h0 := by omega) (h2 := by omega)]
  have hs : (sizeOf (Try.prog.elem 95)).run Try.prog W = .ok 3 W := by rw [Try.elem95]; exact Try.sizeOf94 W
  rw [hs]
  simp only [Result.andThen, sliced, Int.toNat_natCast]
  rfl

/-- Whether number i agrees with the first c ones. -/
def agreeN (T : List Trm) (i c : Nat) : Bool := (List.range c).all fun k => agreeB (T.getD i default) (T.getD k default)
def agreeT (T : List Trm) (n : Nat) : Bool := (List.range n).all fun i => agreeN T i i

theorem agreeN_succ (T : List Trm) (i c : Nat) : agreeN T i (c + 1) = (agreeN T i c && agreeB (T.getD i default) (T.getD c default)) := by
  unfold agreeN
  rw [List.range_succ, List.all_append]
  simp

theorem agreeT_succ (T : List Trm) (n : Nat) : agreeT T (n + 1) = (agreeT T n && agreeN T n n) := by
  unfold agreeT
  rw [List.range_succ, List.all_append]
  simp

set_option maxRecDepth 100000 in
set_option maxHeartbeats 1000000 in
theorem agree_any (T : List Trm) (n cap : Nat) (a : Option Addr) (w : World) (hT : T.length = n) (hn : n ≤ 1000000) (hc : n ≤ cap) (hS : TrmsAt w a T) :
    Calls Try.prog 75 #[.slice a n cap] w fun e w' => e = .returned (.bool (agreeT T n)) ∧ Below w.heap.size w w' := by
  have HT := hid hT
  clear hT
  have hag := agrees_any
  have hsl : ∀ (h : Nat) W, h ≤ cap → (Instr.slice 95 (.slice a n cap) none (some (.int .i64 (h : Int))) none).run Try.prog W = .ok (.slice (subA a cap 0 3) h cap) W := fun h W h2 => slice95h a n cap h h2 W
  have HF : Hid (∀ i c, i < n → c < i → agreeB (T.getD i default) (T.getD c default) = false → agreeT T n = false) := hid (fun i c h1 h2 h3 => by
    rw [← Bool.not_eq_true]
    unfold agreeT agreeN
    rw [List.all_eq_true]
    intro h
    have := h i (List.mem_range.2 h1)
    rw [List.all_eq_true] at this
    rw [this c (List.mem_range.2 h2)] at h3
    cases h3)
  have HA : Hid ((∀ i, i < n → agreeN T i i = true) → agreeT T n = true) := hid (fun h => by
    unfold agreeT
    rw [List.all_eq_true]
    exact fun i hi => h i (List.mem_range.1 hi))
  go_enter Try.func75, Try.ntmps75
  go_wp2
  go_step3
  go_wp2
  go_step3
  go_wp2
  go_loopw [3, 10] (fun ov iv wr => ∃ j : Nat, j ≤ n ∧ iv = .int .i64 j ∧ ov = .bool true ∧ Hid (∀ i, i < j → agreeN T i i = true) ∧ Below w.heap.size w wr) (fun _ iv _ => n - (intOf iv).toNat)
  case atStart => exact ⟨0, Nat.zero_le _, rfl, rfl, hid (fun i h => by omega), Below.refl _ _⟩
  case round =>
    obtain ⟨j, hj, rfl, rfl, HJ, hB⟩ := hrel
    by_cases hlt : j < n
    · have hlt' : (j : Int) < n := by omega
      obtain ⟨b, off, ea, e0, e1, e2⟩ := hS j (by rw [HT.out]; exact hlt)
      subst ea
      replace e0 := cell_grown hB e0
      replace e1 := cell_grown hB e1
      replace e2 := cell_grown hB e2
      have gb := lt_of_cell e1
      have hsj := fun W => hsl j W (by omega)
      have hsu : subA (some ⟨b, off, none⟩) cap 0 3 = some ⟨b, off, none⟩ := by simp [subA, Addr.add]
      rw [hsu] at hsj
      have HSX := hid hS
      have HFJ := hid (fun c h => HF.out j c hlt h)
      have HNS := hid (fun c => agreeN_succ T j c)
      have hN0 : agreeN T j 0 = true := rfl
      have HN0 := hid hN0
      have HTJ := hid (show (T.getD j default) = ⟨(T.getD j default).mark, (T.getD j default).left, (T.getD j default).right⟩ from rfl)
      clear hS hsl hsu hN0
      generalize (T.getD j default).mark = m at e0 HTJ
      generalize (T.getD j default).left = l at e1 HTJ
      generalize (T.getD j default).right = r at e2 HTJ
      go_wp2
      clear hsj e0 e1 e2
      obtain ⟨W1, hW1⟩ : ∃ X, X = wr.alloc (.cells #[.int .i64 m, .string l, .string r] 94) := ⟨_, rfl⟩
      have hB1 : Below w.heap.size w W1 := by rw [hW1]; exact hB.alloc hB.size _
      have d0 : W1.cell? ⟨wr.heap.size, 0, none⟩ = some (.int .i64 m) := by rw [hW1]; simp [go_sem]
      have d1 : W1.cell? ⟨wr.heap.size, 1, none⟩ = some (.string l) := by rw [hW1]; simp [go_sem]
      have d2 : W1.cell? ⟨wr.heap.size, 2, none⟩ = some (.string r) := by rw [hW1]; simp [go_sem]
      rw [← hW1]
      clear hW1 gb
      go_loopw [3, 19] (fun ov iv wx => ∃ c : Nat, c ≤ j ∧ iv = .int .i64 c ∧ ov = .bool true ∧ Hid (agreeN T j c = true) ∧ Below W1.heap.size W1 wx) (fun _ iv _ => j - (intOf iv).toNat)
      case atStart => exact ⟨0, Nat.zero_le _, rfl, rfl, HN0, Below.refl _ _⟩
      case round =>
        obtain ⟨c, hcj, rfl, rfl, HC, hBx⟩ := hrel
        have hBw := below_then hB1 hBx
        by_cases hlc : c < j
        · have hlc' : (c : Int) < j := by omega
          obtain ⟨b', off', ea, e0, e1, e2⟩ := HSX.out c (by rw [HT.out]; omega)
          cases ea
          replace e0 := cell_grown hBw e0
          replace e1 := cell_grown hBw e1
          replace e2 := cell_grown hBw e2
          replace d0 := cell_grown hBx d0
          replace d1 := cell_grown hBx d1
          replace d2 := cell_grown hBx d2
          have gb := lt_of_cell e1
          have gd := lt_of_cell d1
          have HTC := hid (show (T.getD c default) = ⟨(T.getD c default).mark, (T.getD c default).left, (T.getD c default).right⟩ from rfl)
          generalize (T.getD c default).mark = m' at e0 HTC
          generalize (T.getD c default).left = l' at e1 HTC
          generalize (T.getD c default).right = r' at e2 HTC
          have hcall := fun W => hag ⟨m, l, r⟩ ⟨m', l', r'⟩ W
          obtain ⟨v, hv⟩ : ∃ v, agreeB ⟨m, l, r⟩ ⟨m', l', r'⟩ = v := ⟨_, rfl⟩
          simp only [hv] at hcall
          have HV : Hid (agreeB (T.getD j default) (T.getD c default) = v) := hid (by rw [HTJ.out, HTC.out]; exact hv)
          clear hv hag
          cases v
          · have HFF := hid (HFJ.out c hlc HV.out)
            go_wp2_with (go_at_call 105; refine (hcall _).mono ?_; rintro e w2 ⟨rfl, hb2⟩)
            rw [Exit.noGoto_ret]
            go_ret
            exact ⟨by rw [HFF.out]; rfl, below_then (hBw.alloc hBw.size _) hb2⟩
          · go_wp2_with (go_at_call 105; refine (hcall _).mono ?_; rintro e w2 ⟨rfl, hb2⟩)
            go_roundw
            case rel => exact ⟨c + 1, by omega, by go_num, rfl, hid (by rw [HNS.out, HC.out, HV.out]; rfl), below_then (hBx.alloc hBx.size _) hb2⟩
            case measure => simp [intOf]; omega
        · have hcn : c = j := by omega
          subst hcn
          go_wp2
          go_roundw
          case rel =>
            refine ⟨c + 1, by omega, by go_num, rfl, hid (fun i hi => ?_), hBw⟩
            rcases Nat.lt_or_ge i c with h | h
            · exact HJ.out i h
            · obtain rfl : i = c := by omega
              exact HC.out
          case measure => simp [intOf]; omega
    · have hjn : j = n := by omega
      subst hjn
      have hal := HA.out HJ.out
      have HAL := hid hal
      clear hal
      go_wp2
      try rw [Exit.noGoto_ret]
      go_ret
      exact ⟨by rw [HAL.out]; rfl, hB⟩

def termsE (T : List Trm) : Nat := if T.length ≤ 30 then (if T.all trmOk then (if agreeT T T.length then 0 else 6) else 1) else 3

set_option maxRecDepth 100000 in
set_option maxHeartbeats 1000000 in
theorem terms_any (T : List Trm) (n cap : Nat) (a : Option Addr) (w : World) (hT : T.length = n) (hn : n ≤ 1000000) (hc : n ≤ cap) (hS : TrmsAt w a T) :
    Calls Try.prog 47 #[.slice a n cap] w fun e w' => e = .returned (.int .i64 (termsE T : Nat)) ∧ Below w.heap.size w w' := by
  have hv := trm_all T n cap a w hT hn hS
  have hA := fun W hb => agree_any T n cap a W hT hn hc (TrmsAt.grown (w' := W) hS hb)
  unfold termsE
  rw [hT]
  generalize T.all trmOk = p at hv ⊢
  generalize agreeT T n = q at hA ⊢
  clear hS hT hc
  by_cases h30 : n ≤ 30
  · rw [if_pos h30]
    have g : ¬ (30 : Int) < (n : Int) := by omega
    cases p
    · go_enter Try.func47, Try.ntmps47
      go_wp2_with (go_at_call 73; refine hv.mono ?_; rintro e w1 ⟨rfl, hb1⟩)
      go_ret
      exact ⟨rfl, hb1⟩
    · cases q
      · go_enter Try.func47, Try.ntmps47
        go_wp2_with (first | (go_at_call 73; refine hv.mono ?_; rintro e w1 ⟨rfl, hb1⟩) | (go_at_call 75; refine (hA _ hb1).mono ?_; rintro e w2 ⟨rfl, hb2⟩))
        go_ret
        exact ⟨rfl, below_then hb1 hb2⟩
      · go_enter Try.func47, Try.ntmps47
        go_wp2_with (first | (go_at_call 73; refine hv.mono ?_; rintro e w1 ⟨rfl, hb1⟩) | (go_at_call 75; refine (hA _ hb1).mono ?_; rintro e w2 ⟨rfl, hb2⟩))
        go_ret
        exact ⟨rfl, below_then hb1 hb2⟩
  · rw [if_neg h30]
    have g : (30 : Int) < (n : Int) := by omega
    clear h30
    go_enter Try.func47, Try.ntmps47
    go_wp2_with fail
    go_ret
    exact ⟨rfl, Below.refl _ _⟩

end Go.Proofs.Ytohahlnhbppnhaa
