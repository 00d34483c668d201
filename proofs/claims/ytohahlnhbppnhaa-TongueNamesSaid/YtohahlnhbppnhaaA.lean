/- Tongue: helpers; numbers within bounds; how many bits a word has. -/
import Derived.Test.YtohahlnhbppnhaaRows
import Derived.WalkKit
import Derived.WalkSpells
import Derived.WalkLawsBesides
import Derived.Lib.Hide
namespace Go.Proofs.Ytohahlnhbppnhaa
open Go.RowKit
set_option linter.unusedSimpArgs false
set_option linter.unusedVariables false

theorem hid {p : Prop} (h : p) : Hid p := h

theorem lt_of_cell {w : World} {b o : Nat} {v : Value} (h : w.cell? ⟨b, o, none⟩ = some v) : b < w.heap.size := World.block_lt_of_cell? w _ h

theorem cell_below {B : Nat} {w w' : World} (h : Below B w w') {b o : Nat} {v : Value} (hb : b < B) (hc : w.cell? ⟨b, o, none⟩ = some v) : w'.cell? ⟨b, o, none⟩ = some v :=
  (h.cell (p := ⟨b, o, none⟩) hb).trans hc

theorem cell_grown {w w' : World} (h : Below w.heap.size w w') {b o : Nat} {v : Value} (hc : w.cell? ⟨b, o, none⟩ = some v) : w'.cell? ⟨b, o, none⟩ = some v :=
  cell_below h (lt_of_cell hc) hc

theorem below_alloc (w : World) (o : Obj) : Below w.heap.size w (w.alloc o) := (Below.refl _ w).alloc (Nat.le_refl _) o

theorem below_then {w w' w'' : World} (h : Below w.heap.size w w') (h' : Below w'.heap.size w' w'') : Below w.heap.size w w'' := h.trans (h'.mono h.size)

def inB (n lo hi : Int) : Bool := decide (lo ≤ n ∧ n ≤ hi)

set_option maxHeartbeats 400000 in
theorem within_any (n lo hi : Int) (w : World) : Calls Try.prog 69 #[.int .i64 n, .int .i64 lo, .int .i64 hi] w fun e w' => e = .returned (.bool (inB n lo hi)) ∧ w' = w := by
  unfold inB
  by_cases h1 : lo ≤ n
  · by_cases h2 : n ≤ hi
    · go_enter Try.func69, Try.ntmps69
      go_wp2_with fail
      go_ret
      simp [h1, h2]
    · go_enter Try.func69, Try.ntmps69
      go_wp2_with fail
      go_ret
      simp [h1, h2]
  · go_enter Try.func69, Try.ntmps69
    go_wp2_with fail
    go_ret
    simp; omega

/-- and, byte by byte -/
theorem and_bytes (q M b c : Nat) (hb : b < 256) (hc : c < 256) : (256 * q + b) &&& (256 * M + c) = 256 * (q &&& M) + (b &&& c) := by
  have h1 : ((256 * q + b) &&& (256 * M + c)) / 256 = q &&& M := by
    have := Nat.and_div_two_pow (a := 256 * q + b) (b := 256 * M + c) (n := 8)
    rw [show (2:Nat)^8 = 256 from rfl] at this
    rw [this, show (256 * q + b) / 256 = q by omega, show (256 * M + c) / 256 = M by omega]
  have h2 : ((256 * q + b) &&& (256 * M + c)) % 256 = b &&& c := by
    have := Nat.and_mod_two_pow (a := 256 * q + b) (b := 256 * M + c) (n := 8)
    rw [show (2:Nat)^8 = 256 from rfl] at this
    rw [this, show (256 * q + b) % 256 = b by omega, show (256 * M + c) % 256 = c by omega]
  omega

def s1 (M x : Nat) : Nat := ((x >>> 1) &&& M) + (x &&& M)
def s2 (M x : Nat) : Nat := ((x >>> 2) &&& M) + (x &&& M)
def s3 (M x : Nat) : Nat := ((x >>> 4) + x) &&& M

theorem and_byte_of (x M c : Nat) (hc : c < 256) : x &&& (256 * M + c) = 256 * ((x / 256) &&& M) + ((x % 256) &&& c) := by
  have := and_bytes (x / 256) M (x % 256) c (by omega) hc
  rwa [show 256 * (x / 256) + x % 256 = x by omega] at this

theorem s1_byte (M q b : Nat) (hb : b < 256) : s1 (256 * M + 85) (256 * q + b) = 256 * s1 M q + s1 85 b := by
  unfold s1
  rw [Nat.shiftRight_eq_div_pow, Nat.shiftRight_eq_div_pow, Nat.shiftRight_eq_div_pow, and_byte_of _ M 85 (by decide), and_byte_of _ M 85 (by decide)]
  rw [show (256 * q + b) / 2 ^ 1 / 256 = q / 2 ^ 1 by omega, show (256 * q + b) / 256 = q by omega, show (256 * q + b) % 256 = b by omega]
  have : ∀ r, r < 2 → ∀ b, b < 256 → ((128 * r + b / 2 ^ 1) &&& 85) = ((b / 2 ^ 1) &&& 85) := by decide +kernel
  rw [show (256 * q + b) / 2 ^ 1 % 256 = 128 * (q % 2) + b / 2 ^ 1 by omega, this _ (by omega) b hb]
  omega

theorem s2_byte (M q b : Nat) (hb : b < 256) : s2 (256 * M + 51) (256 * q + b) = 256 * s2 M q + s2 51 b := by
  unfold s2
  rw [Nat.shiftRight_eq_div_pow, Nat.shiftRight_eq_div_pow, Nat.shiftRight_eq_div_pow, and_byte_of _ M 51 (by decide), and_byte_of _ M 51 (by decide)]
  rw [show (256 * q + b) / 2 ^ 2 / 256 = q / 2 ^ 2 by omega, show (256 * q + b) / 256 = q by omega, show (256 * q + b) % 256 = b by omega]
  have : ∀ r, r < 4 → ∀ b, b < 256 → ((64 * r + b / 2 ^ 2) &&& 51) = ((b / 2 ^ 2) &&& 51) := by decide +kernel
  rw [show (256 * q + b) / 2 ^ 2 % 256 = 64 * (q % 4) + b / 2 ^ 2 by omega, this _ (by omega) b hb]
  omega

/-- no carry out of the byte: its halves are at most 4 -/
theorem s3_byte (M q b : Nat) (h1 : b / 16 ≤ 4) (h2 : b % 16 ≤ 4) (h3 : q % 16 ≤ 4) : s3 (256 * M + 15) (256 * q + b) = 256 * s3 M q + s3 15 b := by
  unfold s3
  rw [Nat.shiftRight_eq_div_pow, Nat.shiftRight_eq_div_pow, Nat.shiftRight_eq_div_pow, and_byte_of _ M 15 (by decide)]
  have h15 : ∀ x, x &&& 15 = x % 16 := fun x => Nat.and_two_pow_sub_one_eq_mod x 4
  rw [h15, h15]
  have e : ((256 * q + b) / 2 ^ 4 + (256 * q + b)) / 256 = q / 2 ^ 4 + q := by omega
  rw [e]
  omega

def pop8 (b : Nat) : Nat := (List.range 8).countP fun i => b.testBit i

/-- one byte -/
theorem one_byte : ∀ b, b < 256 → s1 85 b < 256 ∧ s2 51 (s1 85 b) < 256 ∧ s2 51 (s1 85 b) / 16 ≤ 4 ∧ s2 51 (s1 85 b) % 16 ≤ 4 ∧ s3 15 (s2 51 (s1 85 b)) = pop8 b ∧ pop8 b ≤ 8 := by decide +kernel

def mask (c : Nat) : Nat → Nat
  | 0 => 0
  | n + 1 => 256 * mask c n + c

def bytesOf : Nat → Nat → List Nat
  | 0, _ => []
  | n + 1, x => x % 256 :: bytesOf n (x / 256)

def join : List Nat → Nat
  | [] => 0
  | b :: l => 256 * join l + b

theorem s12_join (n x : Nat) : s2 (mask 51 n) (s1 (mask 85 n) x) % 16 ≤ 4 ∧ (x < 256 ^ n → s3 (mask 15 n) (s2 (mask 51 n) (s1 (mask 85 n) x)) = join ((bytesOf n x).map pop8)) := by
  induction n generalizing x with
  | zero => simp [mask, s1, s2, s3, bytesOf, join]
  | succ n ih =>
    have hx : x = 256 * (x / 256) + x % 256 := by omega
    have hb : x % 256 < 256 := by omega
    obtain ⟨o1, o2, o3, o4, o5, _⟩ := one_byte (x % 256) hb
    have e : s2 (mask 51 (n + 1)) (s1 (mask 85 (n + 1)) x) = 256 * s2 (mask 51 n) (s1 (mask 85 n) (x / 256)) + s2 51 (s1 85 (x % 256)) := by
      rw [mask, mask]
      conv => lhs; rw [hx]
      rw [s1_byte _ _ _ hb, s2_byte _ _ _ o1]
    refine ⟨by rw [e]; omega, fun hlt => ?_⟩
    rw [e, mask, s3_byte _ _ _ o3 o4 (ih _).1, o5, (ih _).2 (by rw [Nat.pow_succ] at hlt; omega)]
    rfl

def popM (x : Nat) : Nat := ((bytesOf 8 x).map pop8).sum

theorem pop_ones (x : Nat) (hx : x < 2 ^ 64) : 
    let y := s3 (mask 15 8) (s2 (mask 51 8) (s1 (mask 85 8) x))
    let a := y + y >>> 8
    let b := a + a >>> 16
    let c := b + b >>> 32
    c < 2 ^ 63 ∧ a < 2 ^ 64 ∧ b < 2 ^ 64 ∧ c % 128 = popM x := by
  intro y a b c
  have hy : y = join ((bytesOf 8 x).map pop8) := (s12_join 8 x).2 (by simpa using hx)
  have h8 : ∀ b ∈ bytesOf 8 x, pop8 b ≤ 8 := by
    have : ∀ n x, ∀ b ∈ bytesOf n x, b < 256 := by
      intro n
      induction n with
      | zero => intro x b hb; simp [bytesOf] at hb
      | succ n ih => intro x b hb; simp only [bytesOf, List.mem_cons] at hb; rcases hb with rfl | hb; omega; exact ih _ _ hb
    intro b hb
    exact (one_byte b (this _ _ _ hb)).2.2.2.2.2
  simp only [bytesOf, List.mem_cons, forall_eq_or_imp, List.map_cons, join, List.map_nil, List.not_mem_nil, false_implies, implies_true, and_true] at hy h8
  simp only [popM, bytesOf, List.map_cons, List.sum_cons, List.map_nil, List.sum_nil]
  simp only [c, b, a, Nat.shiftRight_eq_div_pow]
  generalize pop8 (x % 256) = d0 at *
  generalize pop8 (x / 256 % 256) = d1 at *
  generalize pop8 (x / 256 / 256 % 256) = d2 at *
  generalize pop8 (x / 256 / 256 / 256 % 256) = d3 at *
  generalize pop8 (x / 256 / 256 / 256 / 256 % 256) = d4 at *
  generalize pop8 (x / 256 / 256 / 256 / 256 / 256 % 256) = d5 at *
  generalize pop8 (x / 256 / 256 / 256 / 256 / 256 / 256 % 256) = d6 at *
  generalize pop8 (x / 256 / 256 / 256 / 256 / 256 / 256 / 256 % 256) = d7 at *
  clear_value y
  have hy' : y = d0 + 256 * d1 + 65536 * d2 + 16777216 * d3 + 4294967296 * d4 + 1099511627776 * d5 + 281474976710656 * d6 + 72057594037927936 * d7 := by omega
  clear hy
  have q1 : y / 2 ^ 8 = d1 + 256 * d2 + 65536 * d3 + 16777216 * d4 + 4294967296 * d5 + 1099511627776 * d6 + 281474976710656 * d7 := by omega
  rw [q1]
  obtain ⟨a, ha⟩ : ∃ a, a = y + (d1 + 256 * d2 + 65536 * d3 + 16777216 * d4 + 4294967296 * d5 + 1099511627776 * d6 + 281474976710656 * d7) := ⟨_, rfl⟩
  rw [← ha]
  have q2 : a / 2 ^ 16 = (d2 + d3) + 256 * (d3 + d4) + 65536 * (d4 + d5) + 16777216 * (d5 + d6) + 4294967296 * (d6 + d7) + 1099511627776 * d7 := by omega
  rw [q2]
  obtain ⟨b, hb⟩ : ∃ b, b = a + ((d2 + d3) + 256 * (d3 + d4) + 65536 * (d4 + d5) + 16777216 * (d5 + d6) + 4294967296 * (d6 + d7) + 1099511627776 * d7) := ⟨_, rfl⟩
  rw [← hb]
  have q3 : b / 2 ^ 32 = (d4 + d5 + d6 + d7) + 256 * (d5 + d6 + d7) + 65536 * (d6 + d7) + 16777216 * d7 := by omega
  rw [q3]
  clear q1 q2 q3
  refine ⟨by omega, by omega, by omega, by omega⟩

theorem bits_and64 (a b : Nat) (ha : a < 2 ^ 64) (hb : b < 2 ^ 64) : bits .and .u64 (a : Int) (b : Int) = ((a &&& b : Nat) : Int) := by
  show IntKind.u64.wrap ((BitVec.ofInt 64 (a : Int) &&& BitVec.ofInt 64 (b : Int)).toNat : Int) = _
  have h : (BitVec.ofInt 64 (a : Int) &&& BitVec.ofInt 64 (b : Int)).toNat = a &&& b := by
    rw [BitVec.ofInt_natCast, BitVec.ofInt_natCast, BitVec.toNat_and, BitVec.toNat_ofNat, BitVec.toNat_ofNat, Nat.mod_eq_of_lt ha, Nat.mod_eq_of_lt hb]
  rw [h, IntKind.wrap_u64]
  have : a &&& b ≤ a := Nat.and_le_left
  omega

theorem bits_xor64 (a b : Nat) (ha : a < 2 ^ 64) (hb : b < 2 ^ 64) : bits .xor .u64 (a : Int) (b : Int) = ((a ^^^ b : Nat) : Int) := by
  show IntKind.u64.wrap ((BitVec.ofInt 64 (a : Int) ^^^ BitVec.ofInt 64 (b : Int)).toNat : Int) = _
  have h : (BitVec.ofInt 64 (a : Int) ^^^ BitVec.ofInt 64 (b : Int)).toNat = a ^^^ b := by
    rw [BitVec.ofInt_natCast, BitVec.ofInt_natCast, BitVec.toNat_xor, BitVec.toNat_ofNat, BitVec.toNat_ofNat, Nat.mod_eq_of_lt ha, Nat.mod_eq_of_lt hb]
  rw [h, IntKind.wrap_u64]
  have : a ^^^ b < 2 ^ 64 := Nat.xor_lt_two_pow ha hb
  omega

theorem bits_or64 (a b : Nat) (ha : a < 2 ^ 64) (hb : b < 2 ^ 64) : bits .or .u64 (a : Int) (b : Int) = ((a ||| b : Nat) : Int) := by
  show IntKind.u64.wrap ((BitVec.ofInt 64 (a : Int) ||| BitVec.ofInt 64 (b : Int)).toNat : Int) = _
  have h : (BitVec.ofInt 64 (a : Int) ||| BitVec.ofInt 64 (b : Int)).toNat = a ||| b := by
    rw [BitVec.ofInt_natCast, BitVec.ofInt_natCast, BitVec.toNat_or, BitVec.toNat_ofNat, BitVec.toNat_ofNat, Nat.mod_eq_of_lt ha, Nat.mod_eq_of_lt hb]
  rw [h, IntKind.wrap_u64]
  have : a ||| b < 2 ^ 64 := Nat.or_lt_two_pow ha hb
  omega

/-- What the function reckons, line by line. -/
def w1 (x : Int) : Int := IntKind.u64.wrap (bits .and .u64 (x / 2) 6148914691236517205 + bits .and .u64 x 6148914691236517205)
def w2 (x : Int) : Int := IntKind.u64.wrap (bits .and .u64 (x / 4) 3689348814741910323 + bits .and .u64 x 3689348814741910323)
def w3 (x : Int) : Int := bits .and .u64 (IntKind.u64.wrap (x / 16 + x)) 1085102592571150095
def w4 (k x : Int) : Int := IntKind.u64.wrap (x + x / k)

theorem w1_is (x : Nat) (hx : x < 2 ^ 64) : w1 x = (s1 (mask 85 8) x : Nat) ∧ s1 (mask 85 8) x < 2 ^ 64 := by
  have e1 : bits .and .u64 ((x : Int) / 2) 6148914691236517205 = ((x / 2 &&& 6148914691236517205 : Nat) : Int) := bits_and64 (x / 2) 6148914691236517205 (by omega) (by decide)
  have e2 : bits .and .u64 (x : Int) 6148914691236517205 = ((x &&& 6148914691236517205 : Nat) : Int) := bits_and64 x 6148914691236517205 hx (by decide)
  have hm : mask 85 8 = 6148914691236517205 := by decide +kernel
  have l1 : x / 2 &&& 6148914691236517205 ≤ 6148914691236517205 := Nat.and_le_right
  have l2 : x &&& 6148914691236517205 ≤ 6148914691236517205 := Nat.and_le_right
  unfold w1 s1
  rw [e1, e2, hm, IntKind.wrap_u64, Nat.shiftRight_eq_div_pow, show (2 : Nat) ^ 1 = 2 from rfl]
  omega

theorem w2_is (x : Nat) (hx : x < 2 ^ 64) : w2 x = (s2 (mask 51 8) x : Nat) ∧ s2 (mask 51 8) x < 2 ^ 64 := by
  have e1 : bits .and .u64 ((x : Int) / 4) 3689348814741910323 = ((x / 4 &&& 3689348814741910323 : Nat) : Int) := bits_and64 (x / 4) 3689348814741910323 (by omega) (by decide)
  have e2 : bits .and .u64 (x : Int) 3689348814741910323 = ((x &&& 3689348814741910323 : Nat) : Int) := bits_and64 x 3689348814741910323 hx (by decide)
  have hm : mask 51 8 = 3689348814741910323 := by decide +kernel
  have l1 : x / 4 &&& 3689348814741910323 ≤ 3689348814741910323 := Nat.and_le_right
  have l2 : x &&& 3689348814741910323 ≤ 3689348814741910323 := Nat.and_le_right
  unfold w2 s2
  rw [e1, e2, hm, IntKind.wrap_u64, Nat.shiftRight_eq_div_pow, show (2 : Nat) ^ 2 = 4 from rfl]
  omega

theorem w3_is (x : Nat) (hx : x / 16 + x < 2 ^ 64) : w3 x = (s3 (mask 15 8) x : Nat) := by
  have hm : mask 15 8 = 1085102592571150095 := by decide +kernel
  unfold w3 s3
  have e0 : IntKind.u64.wrap ((x : Int) / 16 + x) = ((x / 16 + x : Nat) : Int) := by rw [IntKind.wrap_u64]; omega
  rw [e0, hm, Nat.shiftRight_eq_div_pow]
  exact bits_and64 _ 1085102592571150095 hx (by decide)

theorem s2_lt (x : Nat) : s2 (mask 51 8) x / 16 + s2 (mask 51 8) x < 2 ^ 64 := by
  have hm : mask 51 8 = 3689348814741910323 := by decide +kernel
  unfold s2
  rw [hm]
  have l1 : x >>> 2 &&& 3689348814741910323 ≤ 3689348814741910323 := Nat.and_le_right
  have l2 : x &&& 3689348814741910323 ≤ 3689348814741910323 := Nat.and_le_right
  omega

theorem popM_le (x : Nat) : popM x ≤ 64 := by
  have h : ∀ b, pop8 b ≤ 8 := fun b => by unfold pop8; have := List.countP_le_length (p := fun i => b.testBit i) (l := List.range 8); simpa using this
  simp only [popM, bytesOf, List.map_cons, List.sum_cons, List.map_nil, List.sum_nil]
  have := h (x % 256)
  have := h (x / 256 % 256)
  have := h (x / 256 / 256 % 256)
  have := h (x / 256 / 256 / 256 % 256)
  have := h (x / 256 / 256 / 256 / 256 % 256)
  have := h (x / 256 / 256 / 256 / 256 / 256 % 256)
  have := h (x / 256 / 256 / 256 / 256 / 256 / 256 % 256)
  have := h (x / 256 / 256 / 256 / 256 / 256 / 256 / 256 % 256)
  omega

theorem i64_wraps (n : Int) : IntKind.i64.wrap n = wrap64 n := by rw [IntKind.wrap_i64]; unfold wrap64; rfl

theorem ones_is (x : Nat) (hx : x < 2 ^ 64) : bits .and .i64 (IntKind.i64.wrap (w4 4294967296 (w4 65536 (w4 256 (w3 (w2 (w1 x))))))) 127 = (popM x : Int) := by
  obtain ⟨e1, l1⟩ := w1_is x hx
  obtain ⟨e2, l2⟩ := w2_is _ l1
  have e3 := w3_is _ (s2_lt (s1 (mask 85 8) x))
  obtain ⟨h1, h2, h3, h4⟩ := pop_ones x hx
  rw [e1, e2, e3]
  generalize s3 (mask 15 8) (s2 (mask 51 8) (s1 (mask 85 8) x)) = y at *
  simp only [Nat.shiftRight_eq_div_pow] at h1 h2 h3 h4
  have f1 : w4 256 y = ((y + y / 2 ^ 8 : Nat) : Int) := by unfold w4; rw [IntKind.wrap_u64]; omega
  rw [f1]
  generalize y + y / 2 ^ 8 = a at *
  have f2 : w4 65536 a = ((a + a / 2 ^ 16 : Nat) : Int) := by unfold w4; rw [IntKind.wrap_u64]; omega
  rw [f2]
  generalize a + a / 2 ^ 16 = b at *
  have f3 : w4 4294967296 b = ((b + b / 2 ^ 32 : Nat) : Int) := by unfold w4; rw [IntKind.wrap_u64]; omega
  rw [f3]
  generalize b + b / 2 ^ 32 = c at *
  rw [← h4]
  show IntKind.i64.wrap ((BitVec.ofInt 64 (IntKind.i64.wrap (c : Int)) &&& BitVec.ofInt 64 (127 : Int)).toNat : Int) = _
  have e : BitVec.ofInt 64 (IntKind.i64.wrap (c : Int)) = BitVec.ofNat 64 c := by
    have : IntKind.i64.wrap (c : Int) = (c : Int) := by rw [IntKind.wrap_i64]; omega
    rw [this, BitVec.ofInt_natCast]
  rw [e]
  have e127 : (BitVec.ofNat 64 c &&& BitVec.ofInt 64 (127 : Int)).toNat = c % 128 := by
    rw [show BitVec.ofInt 64 (127 : Int) = BitVec.ofNat 64 127 from rfl, BitVec.toNat_and, BitVec.toNat_ofNat, BitVec.toNat_ofNat, Nat.mod_eq_of_lt (by omega)]
    exact Nat.and_two_pow_sub_one_eq_mod c 7
  rw [e127, IntKind.wrap_i64]
  omega

set_option maxHeartbeats 1000000 in
theorem ones_any (x : Nat) (hx : x < 2 ^ 64) (w : World) : Calls Try.prog 133 #[.int .u64 (x : Int)] w fun e w' => e = .returned (.int .i64 (popM x : Int)) ∧ w' = w := by
  have he : bits .and .i64 (wrap64 (w4 4294967296 (w4 65536 (w4 256 (w3 (w2 (w1 x))))))) 127 = (popM x : Int) := by have := ones_is x hx; rwa [i64_wraps] at this
  go_enter Try.func133, Try.ntmps133
  go_wp2_with fail
  go_ret
  refine ⟨?_, rfl⟩
  rw [← he]
  rfl

end Go.Proofs.Ytohahlnhbppnhaa
