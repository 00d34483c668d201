/- Mend, the laws: texts of digits, in numbers. Mend, the laws: what a text means by the reference: digits and Means. Mend, the laws: the sense of texts by the reference: Sense. -/
import Derived.Test.YtbampfkmgjfofaaGreatDoorP
import Derived.Deep.RegionHeld3
namespace Go.Proofs.YtbampfkmgjfofaaGreatDoor
open Go.RowKit

def isDig (c : UInt8) : Bool := inB c.toNat 48 57

/-- What digits say, behind what was said before. -/
def valN (acc : Nat) (l : List UInt8) : Nat := l.foldl (fun n c => 10 * n + (c.toNat - 48)) acc

theorem isDig_iff {c : UInt8} : isDig c = true ↔ 48 ≤ c.toNat ∧ c.toNat ≤ 57 := by
  simp only [isDig, inB, decide_eq_true_eq]
  omega

theorem dig_back {c : UInt8} (h : isDig c = true) : UInt8.ofNat (48 + (c.toNat - 48)) = c := by
  have := isDig_iff.1 h
  rw [show 48 + (c.toNat - 48) = c.toNat by omega]
  exact UInt8.ofNat_toNat

theorem decDigits_cons {a d : Nat} (ha : 1 ≤ a) (hd : d < 10) : Lib.decDigits (10 * a + d) = Lib.decDigits a ++ [UInt8.ofNat (48 + d)] := by
  rw [Lib.decDigits, dif_neg (by omega), show (10 * a + d) / 10 = a by omega, show (10 * a + d) % 10 = d by omega]

theorem decDigits_valN : ∀ (l : List UInt8) (acc : Nat), 1 ≤ acc → (∀ c ∈ l, isDig c = true) → Lib.decDigits (valN acc l) = Lib.decDigits acc ++ l
  | [], acc, _, _ => by simp [valN]
  | c :: r, acc, ha, h => by
    have hc := isDig_iff.1 (h c (by simp))
    show Lib.decDigits (valN (10 * acc + (c.toNat - 48)) r) = _
    rw [decDigits_valN r _ (by omega) (fun x hx => h x (by simp [hx])), decDigits_cons ha (by omega), dig_back (h c (by simp))]
    simp

theorem parse_valN : ∀ (l : List UInt8) (acc k : Nat), acc < 10 ^ k → l.length + k ≤ 18 → (∀ c ∈ l, isDig c = true) → Lib.parseUint10 acc l = .ok (valN acc l)
  | [], _, _, _, _, _ => rfl
  | c :: r, acc, k, ha, hl, h => by
    have hl' : r.length + 1 + k ≤ 18 := by simpa using hl
    have hp : 10 ^ k ≤ 10 ^ 17 := Nat.pow_le_pow_right (by decide) (by omega)
    have e17 : (10 : Nat) ^ 17 = 100000000000000000 := by decide
    have hd := isDig_iff.1 (h c (by simp))
    simp only [Lib.parseUint10, if_pos hd]
    rw [if_neg (by omega), if_neg (by omega), parse_valN r _ (k + 1) (by rw [Nat.pow_succ]; omega) (by omega) (fun x hx => h x (by simp [hx]))]
    show _ = Lib.NumEnd.ok (valN (10 * acc + (c.toNat - 48)) r)
    rw [Nat.mul_comm 10 acc]

theorem valN_lt : ∀ (l : List UInt8) (acc k : Nat), acc < 10 ^ k → (∀ c ∈ l, isDig c = true) → valN acc l < 10 ^ (k + l.length)
  | [], _, _, ha, _ => ha
  | c :: r, acc, k, ha, h => by
    have hd := isDig_iff.1 (h c (by simp))
    have := valN_lt r (10 * acc + (c.toNat - 48)) (k + 1) (by rw [Nat.pow_succ]; omega) (fun x hx => h x (by simp [hx]))
    rw [List.length_cons, show k + (r.length + 1) = k + 1 + r.length by omega]
    exact this

/-- May a text be a number by its digits? -/
def digB (l : List UInt8) : Bool := inB l.length 1 9 && (!(decide (l.head? = some 48) && decide (1 < l.length)) && l.all isDig)

/-- The value of a text of digits; -1: it is none. -/
def digitsM (s : Tx) : Int := if digB s.data.toList then (valN 0 s.data.toList : Int) else -1

theorem nDigits_le : ∀ (k u : Nat), u < 10 ^ (k + 1) → Lib.nDigits u ≤ k + 1
  | 0, u, h => by rw [Lib.nDigits_small (by simpa using h)]; exact Nat.le_refl _
  | k + 1, u, h => by
    by_cases h10 : u < 10
    · rw [Lib.nDigits_small h10]; omega
    · rw [Lib.nDigits_big h10]
      have := nDigits_le k (u / 10) (by rw [Nat.pow_succ] at h; omega)
      omega

theorem decDigits_ne (u : Nat) : Lib.decDigits u ≠ [] := fun h => by
  have h1 := Lib.decDigits_length u
  have h2 := Lib.nDigits_pos u
  rw [h] at h1
  simp at h1
  omega

theorem digit_of {d : Nat} (h : d < 10) : isDig (UInt8.ofNat (48 + d)) = true := by
  rw [isDig_iff, UInt8.toNat_ofNat']
  omega

theorem decDigits_all (u : Nat) : (Lib.decDigits u).all isDig = true := by
  induction u using Nat.strongRecOn with
  | _ u ih =>
    by_cases h : u < 10
    · rw [Lib.decDigits, dif_pos h]
      rw [List.all_cons, List.all_nil, digit_of h]
      rfl
    · rw [Lib.decDigits, dif_neg h, List.all_append, ih (u / 10) (by omega), List.all_cons, List.all_nil, digit_of (show u % 10 < 10 by omega)]
      rfl

theorem decDigits_head (u : Nat) (h1 : 1 ≤ u) : (Lib.decDigits u).head? ≠ some 48 := by
  induction u using Nat.strongRecOn with
  | _ u ih =>
    by_cases h : u < 10
    · rw [Lib.decDigits, dif_pos h]
      simp only [List.head?_cons, ne_eq, Option.some.injEq]
      intro e
      have := congrArg UInt8.toNat e
      rw [UInt8.toNat_ofNat'] at this
      have e48 : (48 : UInt8).toNat = 48 := rfl
      omega
    · rw [Lib.decDigits, dif_neg h]
      have h2 := ih (u / 10) (by omega) (by omega)
      have h3 := decDigits_ne (u / 10)
      cases hx : Lib.decDigits (u / 10) with
      | nil => exact absurd hx h3
      | cons y r =>
        rw [hx] at h2
        exact h2

theorem digB_dec {u : Nat} (h : u ≤ 999999999) : digB (Lib.decDigits u) = true := by
  unfold digB
  rw [decDigits_all, Bool.and_true, Bool.and_eq_true]
  have h1 := nDigits_le 8 u (by omega)
  have h2 := Lib.nDigits_pos u
  refine ⟨?_, ?_⟩
  · rw [Lib.decDigits_length]
    simp only [inB, decide_eq_true_eq]
    omega
  · by_cases h0 : u = 0
    · subst h0
      rw [Lib.decDigits, dif_pos (by omega)]
      rfl
    · have := decDigits_head u (by omega)
      simp [this]

theorem itoa_valN {l : List UInt8} (h : digB l = true) : Lib.decDigits (valN 0 l) = l := by
  unfold digB at h
  rw [Bool.and_eq_true, Bool.and_eq_true, List.all_eq_true] at h
  obtain ⟨h1, h2, h3⟩ := h
  cases l with
  | nil => simp [inB] at h1
  | cons c r =>
    have hc := isDig_iff.1 (h3 c (by simp))
    by_cases e : c = 48
    · subst e
      have : r = [] := by
        cases r with
        | nil => rfl
        | cons _ _ => simp at h2
      subst this
      rw [Lib.decDigits]
      rfl
    · have hn : 1 ≤ c.toNat - 48 := by
        have : c.toNat ≠ 48 := fun q => e (UInt8.toNat_inj.1 q)
        omega
      show Lib.decDigits (valN (10 * 0 + (c.toNat - 48)) r) = _
      rw [decDigits_valN r _ (by omega) (fun x hx => h3 x (by simp [hx])), show 10 * 0 + (c.toNat - 48) = c.toNat - 48 by omega, Lib.decDigits, dif_pos (by omega), dig_back (h3 c (by simp))]
      rfl

theorem atoi_valN {l : List UInt8} (h : digB l = true) : Lib.atoiAll l = .ok (valN 0 l : Int) ∧ valN 0 l ≤ 999999999 := by
  unfold digB at h
  rw [Bool.and_eq_true, Bool.and_eq_true, List.all_eq_true] at h
  obtain ⟨h1, h2, h3⟩ := h
  have hl : l.length ≤ 9 := by
    simp only [inB, decide_eq_true_eq] at h1
    omega
  have hlt := valN_lt l 0 0 (by decide) h3
  have hp : 10 ^ (0 + l.length) ≤ 10 ^ 9 := Nat.pow_le_pow_right (by decide) (by omega)
  have e9 : (10 : Nat) ^ 9 = 1000000000 := by decide
  have hv : valN 0 l ≤ 999999999 := by omega
  refine ⟨?_, hv⟩
  cases l with
  | nil => simp [inB] at h1
  | cons c r =>
    have hc := isDig_iff.1 (h3 c (by simp))
    rw [Lib.atoiAll_plain c r (by omega) (by omega), Lib.parseMag, if_neg (by simp), parse_valN (c :: r) 0 0 (by decide) (by omega) h3]
    simp only [Lib.signless]
    rw [if_neg (by omega)]

theorem numM_digits (s : Tx) : numM s = if 0 ≤ digitsM s then some (digitsM s) else none := by
  unfold digitsM numM
  generalize s.data.toList = l
  cases h : digB l
  · have hn : ¬ (0 : Int) ≤ (if false = true then (valN 0 l : Int) else -1) := by simp
    rw [if_neg hn]
    cases ha : Lib.atoiAll l with
    | ok v =>
      show (if (valueOk v && decide (Lib.itoa v = l)) = true then some v else none) = none
      rw [if_neg]
      intro hc
      rw [Bool.and_eq_true, decide_eq_true_eq] at hc
      obtain ⟨h1, h2⟩ := hc
      simp only [valueOk, inB, decide_eq_true_eq] at h1
      rw [Lib.itoa, if_neg (by omega)] at h2
      have := digB_dec (u := v.toNat) (by omega)
      rw [h2, h] at this
      cases this
    | «syntax» => rfl
    | range => rfl
  · obtain ⟨h1, h2⟩ := atoi_valN h
    rw [h1, if_pos (by simp)]
    show (if (valueOk (valN 0 l : Int) && decide (Lib.itoa (valN 0 l : Int) = l)) = true then some ((valN 0 l : Nat) : Int) else none) = _
    rw [if_pos]
    · simp
    · rw [Bool.and_eq_true, decide_eq_true_eq]
      refine ⟨?_, by rw [Lib.itoa, if_neg (by omega), Int.toNat_natCast, itoa_valN h]⟩
      simp only [valueOk, inB, decide_eq_true_eq]
      omega

end Go.Proofs.YtbampfkmgjfofaaGreatDoor

namespace Go.Proofs.YtbampfkmgjfofaaGreatDoor
open Go.RowKit

theorem valN_snoc (acc : Nat) (l : List UInt8) (c : UInt8) : valN acc (l ++ [c]) = 10 * valN acc l + (c.toNat - 48) := by simp [valN]

theorem tx_len (s : Tx) : s.data.toList.length = s.size := by rw [Array.length_toList]; rfl

theorem tx_get {s : Tx} {k : Nat} (hk : k < s.size) : s.data.toList[k]? = some (s[k]'hk) := by
  rw [List.getElem?_eq_getElem (by rw [tx_len]; exact hk), Array.getElem_toList]
  rfl

theorem digitsM_short {s : Tx} (h : s.size < 1 ∨ 9 < s.size) : digitsM s = -1 := by
  unfold digitsM digB
  rw [tx_len, if_neg]
  have : inB (s.size : Int) 1 9 = false := by simp [inB]; omega
  rw [this]
  simp

theorem digitsM_zero {s : Tx} (h1 : 1 < s.size) (h : ((s[0]'(by omega)).toNat : Int) = 48) : digitsM s = -1 := by
  unfold digitsM digB
  have h0 : s.data.toList.head? = some 48 := by
    rw [List.head?_eq_getElem?, tx_get (by omega)]
    congr 1
    apply UInt8.toNat_inj.1
    show _ = 48
    omega
  rw [tx_len, h0, if_neg]
  have : decide (1 < s.size) = true := by simpa using h1
  rw [this]
  simp

theorem digitsM_bad {s : Tx} {k : Nat} (hk : k < s.size) (h : isDig (s[k]'hk) = false) : digitsM s = -1 := by
  unfold digitsM digB
  have : s.data.toList.all isDig = false := by
    rw [List.all_eq_false]
    exact ⟨s[k]'hk, List.mem_of_getElem? (tx_get hk), by rw [h]; simp⟩
  rw [this, if_neg]
  simp

theorem digitsM_good {s : Tx} (h1 : 1 ≤ s.size) (h2 : s.size ≤ 9) (h3 : ¬ (((s[0]'(by omega)).toNat : Int) = 48 ∧ 1 < s.size)) (h4 : s.data.toList.all isDig = true) : digitsM s = (valN 0 s.data.toList : Int) := by
  unfold digitsM digB
  have e1 : inB (s.size : Int) 1 9 = true := by simp [inB]; omega
  have e2 : (decide (s.data.toList.head? = some 48) && decide (1 < s.size)) = false := by
    rw [List.head?_eq_getElem?, tx_get (by omega), Bool.and_eq_false_iff]
    by_cases q : 1 < s.size
    · left
      rw [decide_eq_false_iff_not]
      intro e
      apply h3
      refine ⟨?_, q⟩
      rw [Option.some.injEq] at e
      rw [e]
      rfl
    · right
      simpa using q
  rw [tx_len, e1, e2, h4]
  rfl

set_option maxRecDepth 100000 in
set_option maxHeartbeats 2000000 in
theorem digits_any (s : Tx) (w : World) (hs : s.size ≤ 1000) :
    Calls Tryz.prog 74 #[.string s] w fun e w' => e = .returned (.int .i64 (digitsM s)) ∧ w = w' := by
  obtain ⟨z, hz⟩ : ∃ z, digitsM s = z := ⟨_, rfl⟩
  rw [hz]
  have HZ := hid hz
  clear hz
  by_cases h1 : s.size < 1
  · have hzf : z = -1 := by rw [← HZ.out]; exact digitsM_short (.inl h1)
    have g1 : (s.size : Int) < 1 := by omega
    clear h1
    go_enter Tryz.func74, Tryz.ntmps74
    go_wp2
    go_ret
    exact ⟨by first | rfl | (rw [hzf]; rfl), rfl⟩
  have g1 : ¬ (s.size : Int) < 1 := by omega
  by_cases h9 : 9 < s.size
  · have hzf : z = -1 := by rw [← HZ.out]; exact digitsM_short (.inr h9)
    have g9 : (9 : Int) < (s.size : Int) := by omega
    clear h9 h1
    go_enter Tryz.func74, Tryz.ntmps74
    go_wp2
    go_ret
    exact ⟨by first | rfl | (rw [hzf]; rfl), rfl⟩
  have g9 : ¬ (9 : Int) < (s.size : Int) := by omega
  have h0 : 0 < s.size := by omega
  have HN : Hid (¬ (((s[0]'h0).toNat : Int) = 48 ∧ 1 < s.size) ∨ z = -1) := hid (by
    by_cases q : ((s[0]'h0).toNat : Int) = 48 ∧ 1 < s.size
    · right
      rw [← HZ.out]
      exact digitsM_zero q.2 q.1
    · left
      exact q)
  have hc3 : ((((s[0]'h0).toNat : Int) == 48) = true ∧ (1 : Int) < (s.size : Int)) ∨ ((((s[0]'h0).toNat : Int) == 48) = true ∧ ¬ (1 : Int) < (s.size : Int)) ∨ (((s[0]'h0).toNat : Int) == 48) = false := by
    by_cases q : ((s[0]'h0).toNat : Int) = 48
    · by_cases q1 : (1 : Int) < (s.size : Int)
      · exact .inl ⟨by simpa using q, q1⟩
      · exact .inr (.inl ⟨by simpa using q, q1⟩)
    · exact .inr (.inr (by simpa using q))
  rcases hc3 with ⟨b0, gl⟩ | hc
  · have hzf : z = -1 := by
      rcases HN.out with q | q
      · exact absurd ⟨by simpa using b0, by omega⟩ q
      · exact q
    clear h1 h9
    go_enter Tryz.func74, Tryz.ntmps74
    go_wp2
    go_ret
    exact ⟨by first | rfl | (rw [hzf]; rfl), rfl⟩
  have HN2 : Hid (¬ (((s[0]'h0).toNat : Int) = 48 ∧ 1 < s.size)) := hid (by
    rcases hc with ⟨_, q⟩ | q
    · intro h; omega
    · intro h; simp at q; exact q h.1)
  clear HN
  rcases hc with ⟨b0, gl⟩ | b0
  all_goals
    clear h1 h9
    go_enter Tryz.func74, Tryz.ntmps74
    go_wp2_with fail
    go_loopw [3, 4] (fun v i wr => ∃ k x : Nat, k ≤ s.size ∧ i = .int .i64 k ∧ v = .int .i64 x ∧ x < 10 ^ k ∧ Hid (x = valN 0 (s.data.toList.take k) ∧ (s.data.toList.take k).all isDig = true) ∧ wr = w) (fun _ i _ => s.size - (intOf i).toNat)
    case atStart => exact ⟨0, 0, Nat.zero_le _, rfl, rfl, by decide, hid ⟨rfl, rfl⟩, rfl⟩
    case round =>
      obtain ⟨k, x, hk, rfl, rfl, hx10, HX, rfl⟩ := hrel
      by_cases hlt : k < s.size
      · have hlt' : (k : Int) < (s.size : Int) := by omega
        have hx9 : (x : Int) ≤ 99999999 := by
          have : 10 ^ k ≤ 10 ^ 8 := Nat.pow_le_pow_right (by decide) (by omega)
          have e8 : (10 : Nat) ^ 8 = 100000000 := by decide
          omega
        have hbad : isDig (s[k]'hlt) = false → z = -1 := fun h => by rw [← HZ.out]; exact digitsM_bad hlt h
        have HBAD := hid hbad
        clear hbad
        by_cases q1 : ((s[k]'hlt).toNat : Int) < 48
        · have hzf : z = -1 := HBAD.out (by simp [isDig, inB]; omega)
          clear hx10
          go_wp2
          go_ret
          exact ⟨by first | rfl | (rw [hzf]; rfl), rfl⟩
        · by_cases q2 : 57 < ((s[k]'hlt).toNat : Int)
          · have hzf : z = -1 := HBAD.out (by simp [isDig, inB]; omega)
            clear hx10
            go_wp2
            go_ret
            exact ⟨by first | rfl | (rw [hzf]; rfl), rfl⟩
          · have HL10 : Hid (10 * x + ((s[k]'hlt).toNat - 48) < 10 ^ (k + 1)) := hid (by rw [Nat.pow_succ]; omega)
            have hts : s.data.toList.take (k + 1) = s.data.toList.take k ++ [s[k]'hlt] := by
              rw [List.take_add_one, tx_get hlt]
              rfl
            have HX2 : Hid (10 * x + ((s[k]'hlt).toNat - 48) = valN 0 (s.data.toList.take (k + 1)) ∧ (s.data.toList.take (k + 1)).all isDig = true) := hid (by
              rw [hts, valN_snoc, List.all_append, ← HX.out.1, HX.out.2]
              refine ⟨rfl, ?_⟩
              have : isDig (s[k]'hlt) = true := by simp [isDig, inB]; omega
              simp [this])
            have HV : Hid ((10 : Int) * x + (((s[k]'hlt).toNat : Int) - 48) = ((10 * x + ((s[k]'hlt).toNat - 48) : Nat) : Int)) := hid (by omega)
            clear hts hx10
            go_wp2
            go_roundw
            case rel => exact ⟨k + 1, _, by omega, by go_num, by rw [HV.out], HL10.out, HX2, by first | rfl | trivial⟩
            case measure => simp [intOf]; omega
      · have hzf : z = (x : Int) := by
          have hf : s.data.toList.take k = s.data.toList := List.take_of_length_le (by rw [tx_len]; omega)
          have h2 := HX.out
          rw [hf] at h2
          rw [← HZ.out, digitsM_good (by omega) (by omega) HN2.out h2.2, h2.1]
        clear hx10
        go_wp2
        go_ret
        exact ⟨by first | rfl | (rw [hzf]; rfl), rfl⟩

theorem meansM_cons (x : Ent) (r : List Ent) (s : Tx) : meansM (x :: r) s = if x.1 = s then some x.2 else meansM r s := by
  unfold meansM
  rw [List.find?_cons]
  by_cases h : x.1 = s
  · simp [h]
  · simp [h]

theorem meansM_nil (s : Tx) : meansM [] s = if 0 ≤ digitsM s then some (1, digitsM s) else none := by
  have h : meansM [] s = (numM s).map fun v => ((1 : Int), v) := rfl
  rw [h, numM_digits]
  split <;> rfl

/-- A mark, as it is handed back: the Kind 0 if there is none. -/
def meanV (o : Option (Int × Int)) : Value :=
  match o with
  | some m => .agg #[.int .u8 m.1, .int .i64 m.2]
  | none => .agg #[.int .u8 0, .int .i64 0]

theorem entsM_zero {L : List (List Tx)} {k : Nat} (h : L.length ≤ k) (j : Nat) : entsM j (L.drop k) = [] := by
  rw [List.drop_eq_nil_of_le h]
  rfl

set_option maxRecDepth 100000 in
set_option maxHeartbeats 4000000 in
theorem means_any (l : Lex) (a1 a2 a3 : Option Addr) (n1 n2 n3 c1 c2 c3 : Nat) (s : Tx) (w : World) (h1 : l.nums.length = n1) (h2 : l.names.length = n2) (h3 : l.nots.length = n3) (hL : LexAt w a1 a2 a3 l) (hs : s.size ≤ 1000) :
    Calls Tryz.prog 56 #[.agg #[.slice a1 n1 c1, .slice a2 n2 c2, .slice a3 n3 c3], .string s] w fun e w' => e = .returned (meanV (meansM (entries l) s)) ∧ Below w.heap.size w w' := by
  have hm1 := hL.n1
  have hm2 := hL.n2
  have hm3 := hL.n3
  rw [h1] at hm1
  rw [h2] at hm2
  rw [h3] at hm3
  unfold maxLen at hm1 hm2 hm3
  obtain ⟨o, ho⟩ : ∃ o, meansM (entries l) s = o := ⟨_, rfl⟩
  rw [ho]
  have HO : Hid (meansM (entsN l.nums ++ (entsM 0 l.names ++ entsT l.nots)) s = o) := hid ho
  have H1 := hid h1; have H2 := hid h2; have H3 := hid h3
  clear ho h1 h2 h3
  obtain ⟨W0, hW0⟩ : ∃ W, W = (w.alloc (.cells #[.slice a1 n1 c1, .slice a2 n2 c2, .slice a3 n3 c3] 26)).alloc (.cells #[.int .u8 0, .int .i64 0] 113) := ⟨_, rfl⟩
  have hB0 : Below w.heap.size w W0 := by rw [hW0]; exact ((Below.refl _ w).alloc (Nat.le_refl _) _).alloc (by simp) _
  have r0 : W0.cell? ⟨w.heap.size, 0, none⟩ = some (.slice a1 n1 c1) := by rw [hW0]; simp [go_sem]
  have r1 : W0.cell? ⟨w.heap.size, 1, none⟩ = some (.slice a2 n2 c2) := by rw [hW0]; simp [go_sem]
  have r2 : W0.cell? ⟨w.heap.size, 2, none⟩ = some (.slice a3 n3 c3) := by rw [hW0]; simp [go_sem]
  have s0 : W0.cell? ⟨w.heap.size + 1, 0, none⟩ = some (.int .u8 0) := by rw [hW0]; simp [go_sem]
  have s1 : W0.cell? ⟨w.heap.size + 1, 1, none⟩ = some (.int .i64 0) := by rw [hW0]; simp [go_sem]
  have f0 : W0.frozen? ⟨w.heap.size + 1, 0, none⟩ = false := by rw [hW0]; simp [go_sem]
  have f1 : W0.frozen? ⟨w.heap.size + 1, 1, none⟩ = false := by rw [hW0]; simp [go_sem]
  have rl := lt_of_cell s0
  have hL0 := hL.grown hB0
  have hend : ∀ v1 v2 : Value, Below w.heap.size w ((W0.setCell ⟨w.heap.size + 1, 0, none⟩ v1).setCell ⟨w.heap.size + 1, 1, none⟩ v2) := fun v1 v2 => (hB0.setCell (p := ⟨w.heap.size + 1, 0, none⟩) (Nat.le_succ _) _).setCell (p := ⟨w.heap.size + 1, 1, none⟩) (Nat.le_succ _) _
  have HEND := hid hend
  clear hL hend
  go_enter Tryz.func56, Tryz.ntmps56
  go_wp2_with fail
  rw [← hW0]
  clear hW0
  go_loopw [5] (fun i wr => ∃ k : Nat, k ≤ n1 ∧ i = .int .i64 k ∧ Hid (meansM (entsN (l.nums.drop k) ++ (entsM 0 l.names ++ entsT l.nots)) s = o) ∧ wr = W0) (fun i _ => n1 - (intOf i).toNat)
  case atStart => exact ⟨0, Nat.zero_le _, rfl, HO, rfl⟩
  case round =>
    obtain ⟨k, hk, rfl, HP, hww⟩ := hrel
    rw [hww]
    clear hww
    clear wr
    by_cases hlt : k < n1
    · have hlt' : (k : Int) < (n1 : Int) := by omega
      obtain ⟨b, off, rfl, e0, e1⟩ := hL0.nums k (by rw [H1.out]; exact hlt)
      have hE := entsN_drop (L := l.nums) (k := k) (by rw [H1.out]; exact hlt)
      generalize l.nums.getD k (.empty, 0) = x at e0 e1 hE
      obtain ⟨x1, x2⟩ := x
      simp only at e0 e1 hE
      have gb := lt_of_cell e0
      have hP := HP.out
      rw [hE, List.cons_append, meansM_cons] at hP
      have HP2 := hid hP
      clear HP hP hE
      by_cases hx : x1 = s
      · have ho : o = some (1, x2) := by rw [← HP2.out, if_pos hx]
        subst ho
        have hx' := tx_same hx
        clear hx HP2
        go_wp2
        exact bodyPost_ret (v := .agg #[.int .u8 1, .int .i64 x2]) (by simp [results, Tryz.f56, go_sem, s0, s1]) rfl ⟨rfl, HEND.out _ _⟩
      · have hx' := tx_diff hx
        have HP3 : Hid (meansM (entsN (l.nums.drop (k + 1)) ++ (entsM 0 l.names ++ entsT l.nots)) s = o) := hid (by rw [← HP2.out, if_neg hx])
        clear hx HP2
        go_wp2
        go_roundw
        case rel => exact ⟨k + 1, by omega, by go_num, HP3, by first | rfl | trivial⟩
        case measure => simp [intOf]; omega
    · have hlt' : ¬ (k : Int) < (n1 : Int) := by omega
      have HQ : Hid (meansM (entsM 0 l.names ++ entsT l.nots) s = o) := hid (by
        have := HP.out
        rwa [List.drop_eq_nil_of_le (by rw [H1.out]; omega)] at this)
      clear HP hlt
      go_wp2_with fail
      go_loopw [6] (fun i wr => ∃ k : Nat, k ≤ n2 ∧ i = .int .i64 k ∧ Hid (meansM (entsM k (l.names.drop k) ++ entsT l.nots) s = o) ∧ wr = W0) (fun i _ => n2 - (intOf i).toNat)
      case atStart => exact ⟨0, Nat.zero_le _, rfl, HQ, rfl⟩
      case round =>
        obtain ⟨k2, hk2, rfl, HP, hww⟩ := hrel
        rw [hww]
        clear hww
        clear wr
        by_cases hlt2 : k2 < n2
        · have hlt2' : (k2 : Int) < (n2 : Int) := by omega
          obtain ⟨b, off, ai, ci, rfl, e0, e1, e2⟩ := hL0.names k2 (by rw [H2.out]; exact hlt2)
          have hE := entsM_drop (L := l.names) (k := k2) (by rw [H2.out]; exact hlt2)
          generalize l.names.getD k2 [] = N at e0 e1 e2 hE
          have HP2 : Hid (meansM (entsI k2 N ++ (entsM (k2 + 1) (l.names.drop (k2 + 1)) ++ entsT l.nots)) s = o) := hid (by
            have := HP.out
            rwa [hE, List.append_assoc] at this)
          clear hE HP
          obtain ⟨nl, hnl⟩ : ∃ n, N.length = n := ⟨_, rfl⟩
          rw [hnl] at e0 e1
          unfold maxLen at e1
          have HNL := hid hnl
          have gb := lt_of_cell e0
          clear hnl
          go_wp2_with fail
          go_loopw [7] (fun i wr => ∃ j : Nat, j ≤ nl ∧ i = .int .i64 j ∧ Hid (meansM (entsI k2 (N.drop j) ++ (entsM (k2 + 1) (l.names.drop (k2 + 1)) ++ entsT l.nots)) s = o) ∧ wr = W0) (fun i _ => nl - (intOf i).toNat)
          case atStart => exact ⟨0, Nat.zero_le _, rfl, HP2, rfl⟩
          case round =>
            obtain ⟨j, hj, rfl, HP, hww⟩ := hrel
            rw [hww]
            clear hww
            clear wr
            by_cases hlt3 : j < nl
            · have hlt3' : (j : Int) < (nl : Int) := by omega
              obtain ⟨b3, off3, rfl, d0⟩ := e2 j (by rw [HNL.out]; exact hlt3)
              have hE := entsI_drop (L := N) (k := j) (j := k2) (by rw [HNL.out]; exact hlt3)
              generalize N.getD j .empty = x1 at d0 hE
              have gd := lt_of_cell d0
              have hP := HP.out
              rw [hE, List.cons_append, meansM_cons] at hP
              have HP2 := hid hP
              clear HP hP hE
              by_cases hx : x1 = s
              · have ho : o = some (2, (k2 : Int)) := by rw [← HP2.out, if_pos hx]
                subst ho
                have hx' := tx_same hx
                clear hx HP2
                go_wp2
                exact bodyPost_ret (v := .agg #[.int .u8 2, .int .i64 k2]) (by simp [results, Tryz.f56, go_sem, s0, s1]) rfl ⟨rfl, HEND.out _ _⟩
              · have hx' := tx_diff hx
                have HP3 : Hid (meansM (entsI k2 (N.drop (j + 1)) ++ (entsM (k2 + 1) (l.names.drop (k2 + 1)) ++ entsT l.nots)) s = o) := hid (by rw [← HP2.out, if_neg hx])
                clear hx HP2
                go_wp2
                go_roundw
                case rel => exact ⟨j + 1, by omega, by go_num, HP3, by first | rfl | trivial⟩
                case measure => simp [intOf]; omega
            · have hlt3' : ¬ (j : Int) < (nl : Int) := by omega
              have HQ2 : Hid (meansM (entsM (k2 + 1) (l.names.drop (k2 + 1)) ++ entsT l.nots) s = o) := hid (by
                have := HP.out
                rwa [List.drop_eq_nil_of_le (by rw [HNL.out]; omega)] at this)
              clear HP hlt3
              go_wp2
              go_roundw
              case rel => exact ⟨k2 + 1, by omega, by go_num, HQ2, by first | rfl | trivial⟩
              case measure => simp [intOf]; omega
        · have hlt2' : ¬ (k2 : Int) < (n2 : Int) := by omega
          have HQ2 : Hid (meansM (entsT l.nots) s = o) := hid (by
            have := HP.out
            rwa [List.drop_eq_nil_of_le (by rw [H2.out]; omega)] at this)
          clear HP hlt2 HQ
          go_wp2_with fail
          go_loopw [8] (fun i wr => ∃ k : Nat, k ≤ n3 ∧ i = .int .i64 k ∧ Hid (meansM (entsT (l.nots.drop k)) s = o) ∧ wr = W0) (fun i _ => n3 - (intOf i).toNat)
          case atStart => exact ⟨0, Nat.zero_le _, rfl, HQ2, rfl⟩
          case round =>
            obtain ⟨k3, hk3, rfl, HP, hww⟩ := hrel
            rw [hww]
            clear hww
            clear wr
            by_cases hlt3 : k3 < n3
            · have hlt3' : (k3 : Int) < (n3 : Int) := by omega
              obtain ⟨b3, off3, rfl, d0⟩ := hL0.nots k3 (by rw [H3.out]; exact hlt3)
              have hE := entsT_drop (L := l.nots) (k := k3) (by rw [H3.out]; exact hlt3)
              generalize l.nots.getD k3 .empty = x1 at d0 hE
              have gd := lt_of_cell d0
              have hP := HP.out
              rw [hE, meansM_cons] at hP
              have HP2 := hid hP
              clear HP hP hE
              by_cases hx : x1 = s
              · have ho : o = some (3, 0) := by rw [← HP2.out, if_pos hx]
                subst ho
                have hx' := tx_same hx
                clear hx HP2
                go_wp2
                exact bodyPost_ret (v := .agg #[.int .u8 3, .int .i64 0]) (by simp [results, Tryz.f56, go_sem, s0, s1]) rfl ⟨rfl, HEND.out _ _⟩
              · have hx' := tx_diff hx
                have HP3 : Hid (meansM (entsT (l.nots.drop (k3 + 1))) s = o) := hid (by rw [← HP2.out, if_neg hx])
                clear hx HP2
                go_wp2
                go_roundw
                case rel => exact ⟨k3 + 1, by omega, by go_num, HP3, by first | rfl | trivial⟩
                case measure => simp [intOf]; omega
            · have hlt3' : ¬ (k3 : Int) < (n3 : Int) := by omega
              have hQ3 : (if 0 ≤ digitsM s then some ((1 : Int), digitsM s) else none) = o := by
                have := HP.out
                rw [List.drop_eq_nil_of_le (by rw [H3.out]; omega)] at this
                rw [← this, ← meansM_nil]
                rfl
              clear HP hlt3
              have hcall := digits_any s W0 hs
              generalize digitsM s = d at hQ3 hcall
              by_cases hd : 0 ≤ d
              · rw [if_pos hd] at hQ3
                subst hQ3
                go_wp2_with (go_at_call 74; refine hcall.mono ?_; rintro e w' ⟨rfl, rfl⟩)
                exact bodyPost_ret (v := .agg #[.int .u8 1, .int .i64 d]) (by simp [results, Tryz.f56, go_sem, s0, s1]) rfl ⟨rfl, HEND.out _ _⟩
              · rw [if_neg hd] at hQ3
                subst hQ3
                go_wp2_with (go_at_call 74; refine hcall.mono ?_; rintro e w' ⟨rfl, rfl⟩)
                exact bodyPost_ret (v := .agg #[.int .u8 0, .int .i64 0]) (by simp [results, Tryz.f56, go_sem, s0, s1]) rfl ⟨rfl, HEND.out _ _⟩

end Go.Proofs.YtbampfkmgjfofaaGreatDoor

namespace Go.Proofs.YtbampfkmgjfofaaGreatDoor
open Go.RowKit

theorem entsM_kind : ∀ (L : List (List Tx)) (k : Nat), ∀ x ∈ entsM k L, x.2.1 = 2
  | [], _, x, hx => by cases hx
  | N :: r, k, x, hx => by
    rw [entsM] at hx
    rcases List.mem_append.1 hx with h | h
    · obtain ⟨t, _, rfl⟩ := List.mem_map.1 h
      rfl
    · exact entsM_kind r (k + 1) x h

theorem entries_kind (l : Lex) : ∀ x ∈ entries l, x.2.1 ≠ 0 := by
  intro x hx
  unfold entries at hx
  rcases List.mem_append.1 hx with h | h
  · obtain ⟨t, _, rfl⟩ := List.mem_map.1 h
    show (1 : Int) ≠ 0
    decide
  · rcases List.mem_append.1 h with h | h
    · rw [entsM_kind _ _ x h]
      decide
    · obtain ⟨t, _, rfl⟩ := List.mem_map.1 h
      show (3 : Int) ≠ 0
      decide

theorem means_kind {l : Lex} {s : Tx} {m : Int × Int} (h : meansM (entries l) s = some m) : m.1 ≠ 0 := by
  unfold meansM at h
  split at h
  · rename_i x hx
    rw [Option.some.injEq] at h
    rw [← h]
    exact entries_kind l x (List.mem_of_find?_eq_some hx)
  · cases hn : numM s with
    | none => rw [hn] at h; cases h
    | some v =>
      rw [hn] at h
      simp only [Option.map_some, Option.some.injEq] at h
      rw [← h]
      show (1 : Int) ≠ 0
      decide

theorem mark_parts (l : Lex) (s : Tx) : ∃ k v : Int, meanV (meansM (entries l) s) = .agg #[.int .u8 k, .int .i64 v] ∧ ((k = 0 ∧ meansM (entries l) s = none) ∨ (k ≠ 0 ∧ meansM (entries l) s = some (k, v))) := by
  cases h : meansM (entries l) s with
  | none => exact ⟨0, 0, rfl, .inl ⟨rfl, rfl⟩⟩
  | some m => exact ⟨m.1, m.2, rfl, .inr ⟨means_kind h, rfl⟩⟩

theorem Tryz.info113 : (Tryz.prog.info? 113).map (fun i => (i.zero, i.size, i.bytes)) = some (some (.agg #[.int .u8 0, .int .i64 0]), 2, 16) := by kernel_rfl

set_option maxRecDepth 100000 in
set_option maxHeartbeats 4000000 in
theorem refSense_any (l : Lex) (a1 a2 a3 : Option Addr) (n1 n2 n3 c1 c2 c3 : Nat) (L : List Tx) (n cap : Nat) (a : Option Addr) (w : World) (h1 : l.nums.length = n1) (h2 : l.names.length = n2) (h3 : l.nots.length = n3) (hLx : LexAt w a1 a2 a3 l)
    (hL : L.length = n) (hn : n ≤ 1000) (hS : Strs w a L) (hs : ∀ t ∈ L, t.size ≤ 1000) :
    Calls Tryz.prog 25 #[.agg #[.slice a1 n1 c1, .slice a2 n2 c2, .slice a3 n3 c3], .slice a n cap] w fun e w' =>
      ∃ ra rc, e = .returned (.slice ra (senseM (entries l) L).length rc) ∧ w'.ownsRow w.heap.size 113 2 (.slice ra (senseM (entries l) L).length rc) (senseM (entries l) L).length (flatV markC (senseM (entries l) L)) ∧ Below w.heap.size w w' := by
  have HL := hid hL
  have H1 := hid h1; have H2 := hid h2; have H3 := hid h3
  clear hL h1 h2 h3
  obtain ⟨i0, hi, hz0, hz1, hz2⟩ := info_parts Tryz.info113
  obtain ⟨W0, hW0⟩ : ∃ W0, W0 = w.alloc (.cells #[.slice a1 n1 c1, .slice a2 n2 c2, .slice a3 n3 c3] 26) := ⟨_, rfl⟩
  have hB0 : Below w.heap.size w W0 := by rw [hW0]; exact below_alloc w _
  have c0 : W0.cell? ⟨w.heap.size, 0, none⟩ = some (.slice a1 n1 c1) := by rw [hW0]; simp [go_sem]
  have c1' : W0.cell? ⟨w.heap.size, 1, none⟩ = some (.slice a2 n2 c2) := by rw [hW0]; simp [go_sem]
  have c2' : W0.cell? ⟨w.heap.size, 2, none⟩ = some (.slice a3 n3 c3) := by rw [hW0]; simp [go_sem]
  have z0 : W0.heap.size = w.heap.size + 1 := by rw [hW0]; simp
  obtain ⟨E, hE⟩ : ∃ E, entries l = E := ⟨_, rfl⟩
  have HE := hid hE
  rw [hE]
  clear hE
  go_enter Tryz.func25, Tryz.ntmps25
  go_wp2_with fail
  rw [← hW0]
  clear hW0
  go_loopw [5, 6] (fun v i wr => ∃ (k : Nat) (pre : List (Int × Int)), k ≤ n ∧ i = .int .i64 k ∧ Hid (senseM E L = pre ++ senseM E (L.drop k)) ∧ pre.length ≤ k ∧ wr.ownsRow W0.heap.size 113 2 v pre.length (flatV markC pre) ∧ Below W0.heap.size W0 wr) (fun _ i _ => n - (intOf i).toNat)
  case atStart => exact ⟨0, [], Nat.zero_le _, rfl, rfl, Nat.zero_le _, World.ownsRow_nil _ _ _ _, Below.refl _ _⟩
  case round =>
    obtain ⟨k, pre, hk, rfl, HP, hpk, hown, hB⟩ := hrel
    have hBw : Below w.heap.size w wr := below_then hB0 hB
    have hz := hB.size
    by_cases hlt : k < n
    · have hlt' : (k : Int) < (n : Int) := by omega
      obtain ⟨ab, off, rfl, e1⟩ := hS k (by rw [HL.out]; exact hlt)
      replace e1 := cell_grown hBw e1
      have hst := senseM_drop (E := E) (L := L) (k := k) (by rw [HL.out]; exact hlt)
      have hsz : (L.getD k .empty).size ≤ 1000 := hs _ (by
        rw [List.getD_eq_getElem?_getD, List.getElem?_eq_getElem (by rw [HL.out]; exact hlt), Option.getD_some]
        exact List.getElem_mem _)
      generalize L.getD k .empty = s at e1 hst hsz
      have gb := lt_of_cell e1
      have hst2 := HP.out
      rw [hst] at hst2
      have HST := hid hst2
      clear hst2
      have x0 := cell_below hB (by omega) c0
      have x1 := cell_below hB (by omega) c1'
      have x2 := cell_below hB (by omega) c2'
      have gw := lt_of_cell x0
      have hlx := hLx.grown hBw
      obtain ⟨mk, mv, hmk, hmr⟩ := mark_parts l s
      rw [HE.out] at hmr
      have HMR := hid hmr
      have HMK := hid hmk
      clear hst HP hmr hmk hlt
      have hBd : Below wr.heap.size wr wr.drew := (Below.refl _ _).drew
      obtain ⟨Wa, hWa⟩ : ∃ x, (wr.alloc (.cells #[.int .u8 0, .int .i64 0] 113)).drew = x := ⟨_, rfl⟩
      have hBa : Below wr.heap.size wr Wa := by rw [← hWa]; exact ((Below.refl _ _).alloc (Nat.le_refl _) _).drew
      have hM : Wa.heap[wr.heap.size]? = some (.cells #[.int .u8 0, .int .i64 0] 113 (0, 0)) := by rw [← hWa]; exact World.alloc_heap_new wr (.cells #[.int .u8 0, .int .i64 0] 113)
      have m0 : Wa.cell? ⟨wr.heap.size, 0, none⟩ = some (.int .u8 0) := by rw [← hWa]; simp [go_sem]
      have f0 : Wa.frozen? ⟨wr.heap.size, 0, none⟩ = false := by rw [← hWa]; simp [go_sem]
      have m1 : Wa.cell? ⟨wr.heap.size, 1, none⟩ = some (.int .i64 0) := by rw [← hWa]; simp [go_sem]
      have f1 : Wa.frozen? ⟨wr.heap.size, 1, none⟩ = false := by rw [← hWa]; simp [go_sem]
      have hza : Wa.heap.size = wr.heap.size + 1 := by rw [← hWa]; simp
      have HS := hid hlx
      clear hlx
      go_wp2_with fail
      go_region_held3 (fun w' : World => w'.cell? ⟨w.heap.size, 0, none⟩ = some (.slice a1 n1 c1) ∧ w'.cell? ⟨w.heap.size, 1, none⟩ = some (.slice a2 n2 c2) ∧ w'.cell? ⟨w.heap.size, 2, none⟩ = some (.slice a3 n3 c3) ∧ w'.cell? ⟨ab, off + k, none⟩ = some (.string s)) (first | with_reducible exact ⟨x0, x1, x2, e1⟩ | with_reducible exact ⟨cell_grown hBa x0, cell_grown hBa x1, cell_grown hBa x2, cell_grown hBa e1⟩ | with_reducible exact ⟨cell_grown hBd x0, cell_grown hBd x1, cell_grown hBd x2, cell_grown hBd e1⟩ | with_reducible exact ⟨cell_grown (Below.alloc (Below.refl _ _) (Nat.le_refl _) _) x0, cell_grown (Below.alloc (Below.refl _ _) (Nat.le_refl _) _) x1, cell_grown (Below.alloc (Below.refl _ _) (Nat.le_refl _) _) x2, cell_grown (Below.alloc (Below.refl _ _) (Nat.le_refl _) _) e1⟩ | with_reducible exact ⟨cell_below (((Below.refl wr.heap.size _).setCell (p := ⟨wr.heap.size, 0, none⟩) (Nat.le_refl _) _).setCell (p := ⟨wr.heap.size, 1, none⟩) (Nat.le_refl _) _) gw x0, cell_below (((Below.refl wr.heap.size _).setCell (p := ⟨wr.heap.size, 0, none⟩) (Nat.le_refl _) _).setCell (p := ⟨wr.heap.size, 1, none⟩) (Nat.le_refl _) _) gw x1, cell_below (((Below.refl wr.heap.size _).setCell (p := ⟨wr.heap.size, 0, none⟩) (Nat.le_refl _) _).setCell (p := ⟨wr.heap.size, 1, none⟩) (Nat.le_refl _) _) gw x2, cell_below (((Below.refl wr.heap.size _).setCell (p := ⟨wr.heap.size, 0, none⟩) (Nat.le_refl _) _).setCell (p := ⟨wr.heap.size, 1, none⟩) (Nat.le_refl _) _) gb e1⟩) (first | (go_at_call 56; replace x0 := cell_grown hBa x0; replace x1 := cell_grown hBa x1; replace x2 := cell_grown hBa x2; replace e1 := cell_grown hBa e1; refine (means_any l a1 a2 a3 n1 n2 n3 c1 c2 c3 s Wa H1.out H2.out H3.out (HS.out.grown hBa) hsz).mono ?_; rw [HMK.out]; rintro e w14 ⟨rfl, hb14⟩; have hb514 := hBa.trans (hb14.mono hBa.size); replace x0 := cell_grown hb14 x0; replace x1 := cell_grown hb14 x1; replace x2 := cell_grown hb14 x2; replace e1 := cell_grown hb14 e1; replace m0 := cell_grown hb14 m0; replace f0 := (hb14.frozen (p := ⟨wr.heap.size, 0, none⟩) (show wr.heap.size < _ by omega)).trans f0; replace m1 := cell_grown hb14 m1; replace f1 := (hb14.frozen (p := ⟨wr.heap.size, 1, none⟩) (show wr.heap.size < _ by omega)).trans f1; replace hM := (hb14.block wr.heap.size (by omega)).trans hM) | (go_at_call 56; replace x0 := cell_grown hBd x0; replace x1 := cell_grown hBd x1; replace x2 := cell_grown hBd x2; replace e1 := cell_grown hBd e1; refine (means_any l a1 a2 a3 n1 n2 n3 c1 c2 c3 s wr.drew H1.out H2.out H3.out (HS.out.grown hBd) hsz).mono ?_; rw [HMK.out]; rintro e w14 ⟨rfl, hb14⟩; have hb514 := hBd.trans (hb14.mono hBd.size); replace x0 := cell_grown hb14 x0; replace x1 := cell_grown hb14 x1; replace x2 := cell_grown hb14 x2; replace e1 := cell_grown hb14 e1; skip))
      all_goals
        first
        | (with_reducible have hMw : w14.heap[wr.heap.size]? = some (.cells #[.int .u8 0, .int .i64 0] 113 (0, 0)) := hM
           clear hMw
           obtain ⟨W15, bu, q1, q2, hB15, hbx⟩ : ∃ (W15 : World) (bu : Nat), ((w14.setCell ⟨wr.heap.size, 0, none⟩ (.int .u8 mk)).setCell ⟨wr.heap.size, 1, none⟩ (.int .i64 mv)) = W15 ∧ wr.heap.size = bu ∧ Below wr.heap.size wr W15 ∧ Box2 W15 bu 113 (.int .u8 mk) (.int .i64 mv) :=
             ⟨_, wr.heap.size, rfl, rfl, (hb514.setCell (p := ⟨wr.heap.size, 0, none⟩) (Nat.le_refl _) _).setCell (p := ⟨wr.heap.size, 1, none⟩) (Nat.le_refl _) _, (Box2.set0 (show Box2 w14 wr.heap.size 113 _ _ from hM) _).set1 _⟩
           rw [q1, q2])
        | (obtain ⟨W15, bu, q1, q2, hB15, hbx⟩ : ∃ (W15 : World) (bu : Nat), w14.alloc (.cells #[.int .u8 mk, .int .i64 mv] 113) = W15 ∧ w14.heap.size = bu ∧ Below wr.heap.size wr W15 ∧ Box2 W15 bu 113 (.int .u8 mk) (.int .i64 mv) :=
             ⟨_, w14.heap.size, rfl, rfl, hb514.alloc hb514.size _, Box2.new _ _ _ _⟩
           rw [q1, q2])
        clear q1 q2 hb14 hb514 x0 x1 x2 e1 hM m0 m1 f0 f1 hza hBa hWa hBd
        have hB3 : Below W0.heap.size W0 W15 := hB.trans (hB15.mono hz)
        have hz3 : W0.heap.size ≤ W15.heap.size := hB3.size
        have hown3 := owns_below hB15 hown
        have v0 := hbx.c0
        have v1 := hbx.c1
        have vl := hbx.lt
        by_cases hk0 : mk = 0
        · have hb0 : (mk != 0) = false := by simpa using hk0
          have HP2 : Hid (senseM E L = pre ++ senseM E (L.drop (k + 1))) := hid (by
            rw [HST.out]
            rcases HMR.out with ⟨_, h⟩ | ⟨h, _⟩
            · rw [h]; rfl
            · exact absurd hk0 h)
          clear hk0
          go_wp2
          go_roundw
          case rel => exact ⟨k + 1, pre, by omega, by go_num, HP2, by omega, hown3, hB3⟩
          case measure => simp [intOf]; omega
        · have hb0 : (mk != 0) = true := by simpa using hk0
          have HP2 : Hid (senseM E L = (pre ++ [(mk, mv)]) ++ senseM E (L.drop (k + 1))) := hid (by
            rw [HST.out]
            rcases HMR.out with ⟨h, _⟩ | ⟨_, h⟩
            · exact absurd h hk0
            · rw [h]; simp)
          clear hk0
          have HN := hid (cell_two_new W15 (.int .u8 mk) (.int .i64 mv) 113)
          go_wp2_with (at_builtin; refine wpList_append_own _ rfl _ _ 43 rfl W0.heap.size 113 i0 (.agg #[.int .u8 0, .int .i64 0]) 2 16 Tryz.underlying43 hi hz0 hz1 hz2 rfl (by decide) _ _ _ rfl (hown3.alloc _) ⟨W15.heap.size, 0, none⟩ 1 1 [.int .u8 mk, .int .i64 mv] rfl rfl HN.out (fun x hx => by simp at hx; rcases hx with rfl | rfl <;> rfl) (by unfold maxLen; omega) (by omega) (by simp; omega) ?_; intro v' w5 hown' hgrow5 hnil5; have hb5 := below_of_grown hB3 hown3 hgrow5 (by omega))
          go_roundw
          case rel => exact ⟨k + 1, pre ++ [(mk, mv)], by omega, by go_num, HP2, by simp; omega, by rw [List.length_append, flatV_snoc]; exact hown', hb5⟩
          case measure => simp [intOf]; omega
    · have hkn : k = n := by omega
      have HP2 : Hid (senseM E L = pre) := hid (by rw [HP.out, List.drop_eq_nil_of_le (by rw [HL.out]; omega)]; simp [senseM])
      clear HP
      obtain ⟨ra, rc, rfl⟩ := owns_shape hown
      have HO := hid hown
      clear hown
      go_wp2
      go_ret
      rw [HP2.out]
      exact ⟨ra, rc, rfl, (HO.out).mono (by omega), hBw⟩

end Go.Proofs.YtbampfkmgjfofaaGreatDoor
