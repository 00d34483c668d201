/- Mend: whether all of a list are as a test asks: one family of functions an element type. -/
import Derived.Test.YtbampfkmgjfofaaGreatDoorA
import Derived.Deep.QuietTactic
import Derived.BigQuiet
import Derived.BigCall
import Derived.Deep.LoopGhost
import Derived.Shelf.Abstract
namespace Go.Proofs.YtbampfkmgjfofaaGreatDoor
open Go.RowKit

/-- Does the test hold at one of the first n places? -/
def anyN (n : Nat) (q : Nat → Bool) : Bool := (List.range n).any q
/-- Does it hold at all of them? -/
def allN (n : Nat) (q : Nat → Bool) : Bool := (List.range n).all q

theorem anyN_true {n i : Nat} {q : Nat → Bool} (hi : i < n) (h : q i = true) : anyN n q = true := List.any_eq_true.2 ⟨i, List.mem_range.2 hi, h⟩
theorem anyN_false {n : Nat} {q : Nat → Bool} (h : ∀ i, i < n → q i = false) : anyN n q = false := by
  unfold anyN
  rw [List.any_eq_false]
  intro i hi
  rw [h i (List.mem_range.1 hi)]
  simp
theorem anyN_not {n : Nat} {q : Nat → Bool} : (!anyN n fun i => !q i) = allN n q := by
  unfold anyN allN
  rw [List.all_eq_not_any_not]

set_option maxRecDepth 100000 in
set_option maxHeartbeats 1000000 in
theorem indexStr_any (q : Nat → Bool) (s : Nat → Tx) (g : Nat) (lb : Array Value) (eg : ∀ args w, (callFunc g args).run Tryz.prog w = .ok (.enter g args) w) (n cap : Nat) (a : Option Addr) (w : World) (hn : n ≤ maxLen)
    (hcell : ∀ i, i < n → ∃ b off, a = some ⟨b, off, none⟩ ∧ w.cell? ⟨b, off + i, none⟩ = some (.string (s i)))
    (hc : ∀ i, i < n → ∀ W, Below w.heap.size w W → Calls Tryz.prog g (#[(.string (s i))] ++ lb) W fun e w' => e = .returned (.bool (q i)) ∧ Below w.heap.size w w') :
    Calls Tryz.prog 130 #[.slice a n cap, .func (.func g) #[] lb] w fun e w' => ∃ z : Int, e = .returned (.int .i64 z) ∧ Below w.heap.size w w' ∧ Hid (decide (0 ≤ z) = anyN n q) := by
  have hn' := hn
  unfold maxLen at hn'
  go_enter Tryz.func130, Tryz.ntmps130
  go_wp2
  go_loopg [5, 8] n (fun gg _ s8 wr => ∃ kk : Nat, kk ≤ n ∧ n - kk ≤ gg ∧ s8 = .int .i64 kk ∧ Aside (Below w.heap.size w wr) ∧ Aside (∀ j, j < kk → q j = false))
  case atStart => exact ⟨0, Nat.zero_le _, by omega, rfl, Below.refl _ w, fun j hj => absurd hj (Nat.not_lt_zero _)⟩
  case round =>
    obtain ⟨kk, hkk, hg, rfl, BW, A⟩ := hrel
    by_cases hlt : kk < n
    · have hltz : (kk : Int) < (n : Int) := by omega
      obtain ⟨b, off, ea, e0⟩ := hcell kk hlt
      subst ea
      have gb0 := lt_of_cell e0
      replace e0 := cell_below BW.out gb0 e0
      have gb := lt_of_cell e0
      have hcall := hc kk hlt wr BW.out
      clear hc hcell gb0
      generalize s kk = sx at *
      generalize hqv : q kk = qx at hcall
      have HQ := hid hqv
      clear hqv
      cases qx with
      | true =>
        go_wp2_with (go_at_fn g; refine hcall.mono ?_; rintro e w' ⟨rfl, hb'⟩)
        go_ret
        exact ⟨kk, rfl, hb', hid (by rw [anyN_true hlt HQ.out]; simp)⟩
      | false =>
        go_wp2_with (go_at_fn g; refine hcall.mono ?_; rintro e w' ⟨rfl, hb'⟩)
        go_roundg (n - (kk + 1))
        case measure => omega
        case rel =>
          refine ⟨kk + 1, by omega, by omega, by go_num, hb', (show Aside _ from fun j hj => ?_)⟩
          by_cases e : j = kk
          · subst e
            exact HQ.out
          · exact A.out j (by omega)
    · have hltz : ¬ (kk : Int) < (n : Int) := by omega
      have hkn : kk = n := by omega
      subst hkn
      go_wp2
      go_ret
      exact ⟨-1, rfl, BW.out, hid (by rw [anyN_false A.out]; rfl)⟩

set_option maxHeartbeats 400000 in
theorem containsStr_any (q : Nat → Bool) (s : Nat → Tx) (g : Nat) (lb : Array Value) (eg : ∀ args w, (callFunc g args).run Tryz.prog w = .ok (.enter g args) w) (n cap : Nat) (a : Option Addr) (w : World) (hn : n ≤ maxLen)
    (hcell : ∀ i, i < n → ∃ b off, a = some ⟨b, off, none⟩ ∧ w.cell? ⟨b, off + i, none⟩ = some (.string (s i)))
    (hc : ∀ i, i < n → ∀ W, Below w.heap.size w W → Calls Tryz.prog g (#[(.string (s i))] ++ lb) W fun e w' => e = .returned (.bool (q i)) ∧ Below w.heap.size w w') :
    Calls Tryz.prog 102 #[.slice a n cap, .func (.func g) #[] lb] w fun e w' => e = .returned (.bool (anyN n q)) ∧ Below w.heap.size w w' := by
  go_enter Tryz.func102, Tryz.ntmps102
  go_wp2_with (go_at_call 130; refine (indexStr_any q s g lb eg n cap a w hn hcell hc).mono ?_; rintro e w' ⟨z, rfl, hb, hz⟩; refine Hid.out ?_)
  refine hid ?_
  have HZ := hid hz.out
  clear hz
  go_wp2
  go_ret
  exact ⟨by rw [← HZ.out]; rfl, hb⟩

set_option maxHeartbeats 400000 in
theorem fitsStr_any (qx : Bool) (sx : Tx) (g : Nat) (lb : Array Value) (eg : ∀ args w, (callFunc g args).run Tryz.prog w = .ok (.enter g args) w) (fb B : Nat) (w0 w : World) (hB : Below B w0 w) (_hBw : B ≤ w.heap.size) (hf : w.cell? ⟨fb, 0, none⟩ = some (.func (.func g) #[] lb))
    (hc : ∀ W, Below B w0 W → Calls Tryz.prog g (#[(.string sx)] ++ lb) W fun e w' => e = .returned (.bool qx) ∧ Below B w0 w') :
    Calls Tryz.prog 103 #[(.string sx), .pointer (some ⟨fb, 0, none⟩)] w fun e w' => e = .returned (.bool (!qx)) ∧ Below B w0 w' := by
  have hfb := lt_of_cell hf
  go_enter Tryz.func103, Tryz.ntmps103
  go_wp2_with (go_at_fn g; refine (hc _ hB).mono ?_; rintro e w' ⟨rfl, hb'⟩)
  go_ret
  exact ⟨rfl, hb'⟩

set_option maxHeartbeats 400000 in
theorem allStr_any (q : Nat → Bool) (s : Nat → Tx) (g : Nat) (lb : Array Value) (eg : ∀ args w, (callFunc g args).run Tryz.prog w = .ok (.enter g args) w) (n cap : Nat) (a : Option Addr) (w : World) (hn : n ≤ maxLen)
    (hcell : ∀ i, i < n → ∃ b off, a = some ⟨b, off, none⟩ ∧ w.cell? ⟨b, off + i, none⟩ = some (.string (s i)))
    (hc : ∀ i, i < n → ∀ W, Below w.heap.size w W → Calls Tryz.prog g (#[(.string (s i))] ++ lb) W fun e w' => e = .returned (.bool (q i)) ∧ Below W.heap.size W w') :
    Calls Tryz.prog 71 #[.slice a n cap, .func (.func g) #[] lb] w fun e w' => e = .returned (.bool (allN n q)) ∧ Below w.heap.size w w' := by
  go_enter Tryz.func71, Tryz.ntmps71
  go_wp2_with fail
  obtain ⟨W1, hW1⟩ : ∃ W, W = w.alloc (.cells #[.func (.func g) #[] lb] 122) := ⟨_, rfl⟩
  have hB1 : Below w.heap.size w W1 := by rw [hW1]; exact below_alloc w _
  have c0 : W1.cell? ⟨w.heap.size, 0, none⟩ = some (.func (.func g) #[] lb) := by rw [hW1]; simp [go_sem]
  rw [← hW1]
  clear hW1
  refine (containsStr_any (fun i => !q i) s 103 #[.pointer (some ⟨w.heap.size, 0, none⟩)] (enters_of Tryz.func103 (by kernel_rfl) rfl) n cap a W1 hn (fun i hi => ?_) (fun i hi W hW => ?_)).mono ?_
  · obtain ⟨b, off, ea, e0⟩ := hcell i hi
    exact ⟨b, off, ea, cell_grown hB1 e0⟩
  · exact fitsStr_any (q i) (s i) g lb eg w.heap.size W1.heap.size W1 W hW hW.size (cell_below hW (lt_of_cell c0) c0) (fun W' hW' => (hc i hi W' (below_then hB1 hW')).mono (fun e w' h => ⟨h.1, below_then hW' h.2⟩))
  rintro e w' ⟨rfl, hb⟩
  go_wp2_with fail
  go_ret
  exact ⟨by rw [anyN_not]; rfl, below_then hB1 hb⟩

set_option maxRecDepth 100000 in
set_option maxHeartbeats 1000000 in
theorem indexByte_any (q : Nat → Bool) (z : Nat → Int) (g : Nat) (lb : Array Value) (eg : ∀ args w, (callFunc g args).run Tryz.prog w = .ok (.enter g args) w) (n cap : Nat) (a : Option Addr) (w : World) (hn : n ≤ maxLen)
    (hcell : ∀ i, i < n → ∃ b off, a = some ⟨b, off, none⟩ ∧ w.cell? ⟨b, off + i, none⟩ = some (.int .u8 (z i)))
    (hc : ∀ i, i < n → ∀ W, Below w.heap.size w W → Calls Tryz.prog g (#[(.int .u8 (z i))] ++ lb) W fun e w' => e = .returned (.bool (q i)) ∧ Below w.heap.size w w') :
    Calls Tryz.prog 149 #[.slice a n cap, .func (.func g) #[] lb] w fun e w' => ∃ z : Int, e = .returned (.int .i64 z) ∧ Below w.heap.size w w' ∧ Hid (decide (0 ≤ z) = anyN n q) := by
  have hn' := hn
  unfold maxLen at hn'
  go_enter Tryz.func149, Tryz.ntmps149
  go_wp2
  go_loopg [5, 8] n (fun gg _ s8 wr => ∃ kk : Nat, kk ≤ n ∧ n - kk ≤ gg ∧ s8 = .int .i64 kk ∧ Aside (Below w.heap.size w wr) ∧ Aside (∀ j, j < kk → q j = false))
  case atStart => exact ⟨0, Nat.zero_le _, by omega, rfl, Below.refl _ w, fun j hj => absurd hj (Nat.not_lt_zero _)⟩
  case round =>
    obtain ⟨kk, hkk, hg, rfl, BW, A⟩ := hrel
    by_cases hlt : kk < n
    · have hltz : (kk : Int) < (n : Int) := by omega
      obtain ⟨b, off, ea, e0⟩ := hcell kk hlt
      subst ea
      have gb0 := lt_of_cell e0
      replace e0 := cell_below BW.out gb0 e0
      have gb := lt_of_cell e0
      have hcall := hc kk hlt wr BW.out
      clear hc hcell gb0
      generalize z kk = zx at *
      generalize hqv : q kk = qx at hcall
      have HQ := hid hqv
      clear hqv
      cases qx with
      | true =>
        go_wp2_with (go_at_fn g; refine hcall.mono ?_; rintro e w' ⟨rfl, hb'⟩)
        go_ret
        exact ⟨kk, rfl, hb', hid (by rw [anyN_true hlt HQ.out]; simp)⟩
      | false =>
        go_wp2_with (go_at_fn g; refine hcall.mono ?_; rintro e w' ⟨rfl, hb'⟩)
        go_roundg (n - (kk + 1))
        case measure => omega
        case rel =>
          refine ⟨kk + 1, by omega, by omega, by go_num, hb', (show Aside _ from fun j hj => ?_)⟩
          by_cases e : j = kk
          · subst e
            exact HQ.out
          · exact A.out j (by omega)
    · have hltz : ¬ (kk : Int) < (n : Int) := by omega
      have hkn : kk = n := by omega
      subst hkn
      go_wp2
      go_ret
      exact ⟨-1, rfl, BW.out, hid (by rw [anyN_false A.out]; rfl)⟩

set_option maxHeartbeats 400000 in
theorem containsByte_any (q : Nat → Bool) (z : Nat → Int) (g : Nat) (lb : Array Value) (eg : ∀ args w, (callFunc g args).run Tryz.prog w = .ok (.enter g args) w) (n cap : Nat) (a : Option Addr) (w : World) (hn : n ≤ maxLen)
    (hcell : ∀ i, i < n → ∃ b off, a = some ⟨b, off, none⟩ ∧ w.cell? ⟨b, off + i, none⟩ = some (.int .u8 (z i)))
    (hc : ∀ i, i < n → ∀ W, Below w.heap.size w W → Calls Tryz.prog g (#[(.int .u8 (z i))] ++ lb) W fun e w' => e = .returned (.bool (q i)) ∧ Below w.heap.size w w') :
    Calls Tryz.prog 131 #[.slice a n cap, .func (.func g) #[] lb] w fun e w' => e = .returned (.bool (anyN n q)) ∧ Below w.heap.size w w' := by
  go_enter Tryz.func131, Tryz.ntmps131
  go_wp2_with (go_at_call 149; refine (indexByte_any q z g lb eg n cap a w hn hcell hc).mono ?_; rintro e w' ⟨z, rfl, hb, hz⟩; refine Hid.out ?_)
  refine hid ?_
  have HZ := hid hz.out
  clear hz
  go_wp2
  go_ret
  exact ⟨by rw [← HZ.out]; rfl, hb⟩

set_option maxHeartbeats 400000 in
theorem fitsByte_any (qx : Bool) (zx : Int) (g : Nat) (lb : Array Value) (eg : ∀ args w, (callFunc g args).run Tryz.prog w = .ok (.enter g args) w) (fb B : Nat) (w0 w : World) (hB : Below B w0 w) (_hBw : B ≤ w.heap.size) (hf : w.cell? ⟨fb, 0, none⟩ = some (.func (.func g) #[] lb))
    (hc : ∀ W, Below B w0 W → Calls Tryz.prog g (#[(.int .u8 zx)] ++ lb) W fun e w' => e = .returned (.bool qx) ∧ Below B w0 w') :
    Calls Tryz.prog 132 #[(.int .u8 zx), .pointer (some ⟨fb, 0, none⟩)] w fun e w' => e = .returned (.bool (!qx)) ∧ Below B w0 w' := by
  have hfb := lt_of_cell hf
  go_enter Tryz.func132, Tryz.ntmps132
  go_wp2_with (go_at_fn g; refine (hc _ hB).mono ?_; rintro e w' ⟨rfl, hb'⟩)
  go_ret
  exact ⟨rfl, hb'⟩

set_option maxHeartbeats 400000 in
theorem allByte_any (q : Nat → Bool) (z : Nat → Int) (g : Nat) (lb : Array Value) (eg : ∀ args w, (callFunc g args).run Tryz.prog w = .ok (.enter g args) w) (n cap : Nat) (a : Option Addr) (w : World) (hn : n ≤ maxLen)
    (hcell : ∀ i, i < n → ∃ b off, a = some ⟨b, off, none⟩ ∧ w.cell? ⟨b, off + i, none⟩ = some (.int .u8 (z i)))
    (hc : ∀ i, i < n → ∀ W, Below w.heap.size w W → Calls Tryz.prog g (#[(.int .u8 (z i))] ++ lb) W fun e w' => e = .returned (.bool (q i)) ∧ Below W.heap.size W w') :
    Calls Tryz.prog 104 #[.slice a n cap, .func (.func g) #[] lb] w fun e w' => e = .returned (.bool (allN n q)) ∧ Below w.heap.size w w' := by
  go_enter Tryz.func104, Tryz.ntmps104
  go_wp2_with fail
  obtain ⟨W1, hW1⟩ : ∃ W, W = w.alloc (.cells #[.func (.func g) #[] lb] 176) := ⟨_, rfl⟩
  have hB1 : Below w.heap.size w W1 := by rw [hW1]; exact below_alloc w _
  have c0 : W1.cell? ⟨w.heap.size, 0, none⟩ = some (.func (.func g) #[] lb) := by rw [hW1]; simp [go_sem]
  rw [← hW1]
  clear hW1
  refine (containsByte_any (fun i => !q i) z 132 #[.pointer (some ⟨w.heap.size, 0, none⟩)] (enters_of Tryz.func132 (by kernel_rfl) rfl) n cap a W1 hn (fun i hi => ?_) (fun i hi W hW => ?_)).mono ?_
  · obtain ⟨b, off, ea, e0⟩ := hcell i hi
    exact ⟨b, off, ea, cell_grown hB1 e0⟩
  · exact fitsByte_any (q i) (z i) g lb eg w.heap.size W1.heap.size W1 W hW hW.size (cell_below hW (lt_of_cell c0) c0) (fun W' hW' => (hc i hi W' (below_then hB1 hW')).mono (fun e w' h => ⟨h.1, below_then hW' h.2⟩))
  rintro e w' ⟨rfl, hb⟩
  go_wp2_with fail
  go_ret
  exact ⟨by rw [anyN_not]; rfl, below_then hB1 hb⟩

set_option maxRecDepth 100000 in
set_option maxHeartbeats 1000000 in
theorem indexNum_any (q : Nat → Bool) (s : Nat → Tx) (z : Nat → Int) (g : Nat) (lb : Array Value) (eg : ∀ args w, (callFunc g args).run Tryz.prog w = .ok (.enter g args) w) (n cap : Nat) (a : Option Addr) (w : World) (hn : n ≤ maxLen)
    (hcell : ∀ i, i < n → ∃ b off, a = some ⟨b, off, none⟩ ∧ w.cell? ⟨b, off + i * 2, none⟩ = some (.string (s i)) ∧ w.cell? ⟨b, off + i * 2 + 1, none⟩ = some (.int .i64 (z i)))
    (hc : ∀ i, i < n → ∀ W, Below w.heap.size w W → Calls Tryz.prog g (#[(.agg #[.string (s i), .int .i64 (z i)])] ++ lb) W fun e w' => e = .returned (.bool (q i)) ∧ Below w.heap.size w w') :
    Calls Tryz.prog 148 #[.slice a n cap, .func (.func g) #[] lb] w fun e w' => ∃ z : Int, e = .returned (.int .i64 z) ∧ Below w.heap.size w w' ∧ Hid (decide (0 ≤ z) = anyN n q) := by
  have hn' := hn
  unfold maxLen at hn'
  go_enter Tryz.func148, Tryz.ntmps148
  go_wp2
  go_loopg [5, 8] n (fun gg _ s8 wr => ∃ kk : Nat, kk ≤ n ∧ n - kk ≤ gg ∧ s8 = .int .i64 kk ∧ Aside (Below w.heap.size w wr) ∧ Aside (∀ j, j < kk → q j = false))
  case atStart => exact ⟨0, Nat.zero_le _, by omega, rfl, Below.refl _ w, fun j hj => absurd hj (Nat.not_lt_zero _)⟩
  case round =>
    obtain ⟨kk, hkk, hg, rfl, BW, A⟩ := hrel
    by_cases hlt : kk < n
    · have hltz : (kk : Int) < (n : Int) := by omega
      obtain ⟨b, off, ea, e0, e1⟩ := hcell kk hlt
      subst ea
      have gb0 := lt_of_cell e0
      replace e0 := cell_below BW.out gb0 e0
      replace e1 := cell_below BW.out gb0 e1
      have gb := lt_of_cell e0
      have hcall := hc kk hlt wr BW.out
      clear hc hcell gb0
      generalize s kk = sx at *
      generalize z kk = zx at *
      generalize hqv : q kk = qx at hcall
      have HQ := hid hqv
      clear hqv
      cases qx with
      | true =>
        go_wp2_with (go_at_fn g; refine hcall.mono ?_; rintro e w' ⟨rfl, hb'⟩)
        go_ret
        exact ⟨kk, rfl, hb', hid (by rw [anyN_true hlt HQ.out]; simp)⟩
      | false =>
        go_wp2_with (go_at_fn g; refine hcall.mono ?_; rintro e w' ⟨rfl, hb'⟩)
        go_roundg (n - (kk + 1))
        case measure => omega
        case rel =>
          refine ⟨kk + 1, by omega, by omega, by go_num, hb', (show Aside _ from fun j hj => ?_)⟩
          by_cases e : j = kk
          · subst e
            exact HQ.out
          · exact A.out j (by omega)
    · have hltz : ¬ (kk : Int) < (n : Int) := by omega
      have hkn : kk = n := by omega
      subst hkn
      go_wp2
      go_ret
      exact ⟨-1, rfl, BW.out, hid (by rw [anyN_false A.out]; rfl)⟩

set_option maxHeartbeats 400000 in
theorem containsNum_any (q : Nat → Bool) (s : Nat → Tx) (z : Nat → Int) (g : Nat) (lb : Array Value) (eg : ∀ args w, (callFunc g args).run Tryz.prog w = .ok (.enter g args) w) (n cap : Nat) (a : Option Addr) (w : World) (hn : n ≤ maxLen)
    (hcell : ∀ i, i < n → ∃ b off, a = some ⟨b, off, none⟩ ∧ w.cell? ⟨b, off + i * 2, none⟩ = some (.string (s i)) ∧ w.cell? ⟨b, off + i * 2 + 1, none⟩ = some (.int .i64 (z i)))
    (hc : ∀ i, i < n → ∀ W, Below w.heap.size w W → Calls Tryz.prog g (#[(.agg #[.string (s i), .int .i64 (z i)])] ++ lb) W fun e w' => e = .returned (.bool (q i)) ∧ Below w.heap.size w w') :
    Calls Tryz.prog 126 #[.slice a n cap, .func (.func g) #[] lb] w fun e w' => e = .returned (.bool (anyN n q)) ∧ Below w.heap.size w w' := by
  go_enter Tryz.func126, Tryz.ntmps126
  go_wp2_with (go_at_call 148; refine (indexNum_any q s z g lb eg n cap a w hn hcell hc).mono ?_; rintro e w' ⟨z, rfl, hb, hz⟩; refine Hid.out ?_)
  refine hid ?_
  have HZ := hid hz.out
  clear hz
  go_wp2
  go_ret
  exact ⟨by rw [← HZ.out]; rfl, hb⟩

set_option maxHeartbeats 400000 in
theorem fitsNum_any (qx : Bool) (sx : Tx) (zx : Int) (g : Nat) (lb : Array Value) (eg : ∀ args w, (callFunc g args).run Tryz.prog w = .ok (.enter g args) w) (fb B : Nat) (w0 w : World) (hB : Below B w0 w) (hBw : B ≤ w.heap.size) (hf : w.cell? ⟨fb, 0, none⟩ = some (.func (.func g) #[] lb))
    (hc : ∀ W, Below B w0 W → Calls Tryz.prog g (#[(.agg #[.string sx, .int .i64 zx])] ++ lb) W fun e w' => e = .returned (.bool qx) ∧ Below B w0 w') :
    Calls Tryz.prog 127 #[(.agg #[.string sx, .int .i64 zx]), .pointer (some ⟨fb, 0, none⟩)] w fun e w' => e = .returned (.bool (!qx)) ∧ Below B w0 w' := by
  have hfb := lt_of_cell hf
  go_enter Tryz.func127, Tryz.ntmps127
  go_wp2_with fail
  refine (hc _ (hB.trans ((below_alloc w _).mono hBw))).mono ?_
  rintro e w' ⟨rfl, hb'⟩
  go_wp2
  go_ret
  exact ⟨rfl, hb'⟩

set_option maxHeartbeats 400000 in
theorem allNum_any (q : Nat → Bool) (s : Nat → Tx) (z : Nat → Int) (g : Nat) (lb : Array Value) (eg : ∀ args w, (callFunc g args).run Tryz.prog w = .ok (.enter g args) w) (n cap : Nat) (a : Option Addr) (w : World) (hn : n ≤ maxLen)
    (hcell : ∀ i, i < n → ∃ b off, a = some ⟨b, off, none⟩ ∧ w.cell? ⟨b, off + i * 2, none⟩ = some (.string (s i)) ∧ w.cell? ⟨b, off + i * 2 + 1, none⟩ = some (.int .i64 (z i)))
    (hc : ∀ i, i < n → ∀ W, Below w.heap.size w W → Calls Tryz.prog g (#[(.agg #[.string (s i), .int .i64 (z i)])] ++ lb) W fun e w' => e = .returned (.bool (q i)) ∧ Below W.heap.size W w') :
    Calls Tryz.prog 93 #[.slice a n cap, .func (.func g) #[] lb] w fun e w' => e = .returned (.bool (allN n q)) ∧ Below w.heap.size w w' := by
  go_enter Tryz.func93, Tryz.ntmps93
  go_wp2_with fail
  obtain ⟨W1, hW1⟩ : ∃ W, W = w.alloc (.cells #[.func (.func g) #[] lb] 172) := ⟨_, rfl⟩
  have hB1 : Below w.heap.size w W1 := by rw [hW1]; exact below_alloc w _
  have c0 : W1.cell? ⟨w.heap.size, 0, none⟩ = some (.func (.func g) #[] lb) := by rw [hW1]; simp [go_sem]
  rw [← hW1]
  clear hW1
  refine (containsNum_any (fun i => !q i) s z 127 #[.pointer (some ⟨w.heap.size, 0, none⟩)] (enters_of Tryz.func127 (by kernel_rfl) rfl) n cap a W1 hn (fun i hi => ?_) (fun i hi W hW => ?_)).mono ?_
  · obtain ⟨b, off, ea, e0, e1⟩ := hcell i hi
    exact ⟨b, off, ea, cell_grown hB1 e0, cell_grown hB1 e1⟩
  · exact fitsNum_any (q i) (s i) (z i) g lb eg w.heap.size W1.heap.size W1 W hW hW.size (cell_below hW (lt_of_cell c0) c0) (fun W' hW' => (hc i hi W' (below_then hB1 hW')).mono (fun e w' h => ⟨h.1, below_then hW' h.2⟩))
  rintro e w' ⟨rfl, hb⟩
  go_wp2_with fail
  go_ret
  exact ⟨by rw [anyN_not]; rfl, below_then hB1 hb⟩

set_option maxRecDepth 100000 in
set_option maxHeartbeats 1000000 in
theorem indexSaid_any (q : Nat → Bool) (s : Nat → Tx) (z : Nat → Int) (g : Nat) (lb : Array Value) (eg : ∀ args w, (callFunc g args).run Tryz.prog w = .ok (.enter g args) w) (n cap : Nat) (a : Option Addr) (w : World) (hn : n ≤ maxLen)
    (hcell : ∀ i, i < n → ∃ b off, a = some ⟨b, off, none⟩ ∧ w.cell? ⟨b, off + i * 2, none⟩ = some (.string (s i)) ∧ w.cell? ⟨b, off + i * 2 + 1, none⟩ = some (.int .i64 (z i)))
    (hc : ∀ i, i < n → ∀ W, Below w.heap.size w W → Calls Tryz.prog g (#[(.agg #[.string (s i), .int .i64 (z i)])] ++ lb) W fun e w' => e = .returned (.bool (q i)) ∧ Below w.heap.size w w') :
    Calls Tryz.prog 137 #[.slice a n cap, .func (.func g) #[] lb] w fun e w' => ∃ z : Int, e = .returned (.int .i64 z) ∧ Below w.heap.size w w' ∧ Hid (decide (0 ≤ z) = anyN n q) := by
  have hn' := hn
  unfold maxLen at hn'
  go_enter Tryz.func137, Tryz.ntmps137
  go_wp2
  go_loopg [5, 8] n (fun gg _ s8 wr => ∃ kk : Nat, kk ≤ n ∧ n - kk ≤ gg ∧ s8 = .int .i64 kk ∧ Aside (Below w.heap.size w wr) ∧ Aside (∀ j, j < kk → q j = false))
  case atStart => exact ⟨0, Nat.zero_le _, by omega, rfl, Below.refl _ w, fun j hj => absurd hj (Nat.not_lt_zero _)⟩
  case round =>
    obtain ⟨kk, hkk, hg, rfl, BW, A⟩ := hrel
    by_cases hlt : kk < n
    · have hltz : (kk : Int) < (n : Int) := by omega
      obtain ⟨b, off, ea, e0, e1⟩ := hcell kk hlt
      subst ea
      have gb0 := lt_of_cell e0
      replace e0 := cell_below BW.out gb0 e0
      replace e1 := cell_below BW.out gb0 e1
      have gb := lt_of_cell e0
      have hcall := hc kk hlt wr BW.out
      clear hc hcell gb0
      generalize s kk = sx at *
      generalize z kk = zx at *
      generalize hqv : q kk = qx at hcall
      have HQ := hid hqv
      clear hqv
      cases qx with
      | true =>
        go_wp2_with (go_at_fn g; refine hcall.mono ?_; rintro e w' ⟨rfl, hb'⟩)
        go_ret
        exact ⟨kk, rfl, hb', hid (by rw [anyN_true hlt HQ.out]; simp)⟩
      | false =>
        go_wp2_with (go_at_fn g; refine hcall.mono ?_; rintro e w' ⟨rfl, hb'⟩)
        go_roundg (n - (kk + 1))
        case measure => omega
        case rel =>
          refine ⟨kk + 1, by omega, by omega, by go_num, hb', (show Aside _ from fun j hj => ?_)⟩
          by_cases e : j = kk
          · subst e
            exact HQ.out
          · exact A.out j (by omega)
    · have hltz : ¬ (kk : Int) < (n : Int) := by omega
      have hkn : kk = n := by omega
      subst hkn
      go_wp2
      go_ret
      exact ⟨-1, rfl, BW.out, hid (by rw [anyN_false A.out]; rfl)⟩

set_option maxHeartbeats 400000 in
theorem containsSaid_any (q : Nat → Bool) (s : Nat → Tx) (z : Nat → Int) (g : Nat) (lb : Array Value) (eg : ∀ args w, (callFunc g args).run Tryz.prog w = .ok (.enter g args) w) (n cap : Nat) (a : Option Addr) (w : World) (hn : n ≤ maxLen)
    (hcell : ∀ i, i < n → ∃ b off, a = some ⟨b, off, none⟩ ∧ w.cell? ⟨b, off + i * 2, none⟩ = some (.string (s i)) ∧ w.cell? ⟨b, off + i * 2 + 1, none⟩ = some (.int .i64 (z i)))
    (hc : ∀ i, i < n → ∀ W, Below w.heap.size w W → Calls Tryz.prog g (#[(.agg #[.string (s i), .int .i64 (z i)])] ++ lb) W fun e w' => e = .returned (.bool (q i)) ∧ Below w.heap.size w w') :
    Calls Tryz.prog 109 #[.slice a n cap, .func (.func g) #[] lb] w fun e w' => e = .returned (.bool (anyN n q)) ∧ Below w.heap.size w w' := by
  go_enter Tryz.func109, Tryz.ntmps109
  go_wp2_with (go_at_call 137; refine (indexSaid_any q s z g lb eg n cap a w hn hcell hc).mono ?_; rintro e w' ⟨z, rfl, hb, hz⟩; refine Hid.out ?_)
  refine hid ?_
  have HZ := hid hz.out
  clear hz
  go_wp2
  go_ret
  exact ⟨by rw [← HZ.out]; rfl, hb⟩

set_option maxHeartbeats 400000 in
theorem fitsSaid_any (qx : Bool) (sx : Tx) (zx : Int) (g : Nat) (lb : Array Value) (eg : ∀ args w, (callFunc g args).run Tryz.prog w = .ok (.enter g args) w) (fb B : Nat) (w0 w : World) (hB : Below B w0 w) (hBw : B ≤ w.heap.size) (hf : w.cell? ⟨fb, 0, none⟩ = some (.func (.func g) #[] lb))
    (hc : ∀ W, Below B w0 W → Calls Tryz.prog g (#[(.agg #[.string sx, .int .i64 zx])] ++ lb) W fun e w' => e = .returned (.bool qx) ∧ Below B w0 w') :
    Calls Tryz.prog 110 #[(.agg #[.string sx, .int .i64 zx]), .pointer (some ⟨fb, 0, none⟩)] w fun e w' => e = .returned (.bool (!qx)) ∧ Below B w0 w' := by
  have hfb := lt_of_cell hf
  go_enter Tryz.func110, Tryz.ntmps110
  go_wp2_with fail
  refine (hc _ (hB.trans ((below_alloc w _).mono hBw))).mono ?_
  rintro e w' ⟨rfl, hb'⟩
  go_wp2
  go_ret
  exact ⟨rfl, hb'⟩

set_option maxHeartbeats 400000 in
theorem allSaid_any (q : Nat → Bool) (s : Nat → Tx) (z : Nat → Int) (g : Nat) (lb : Array Value) (eg : ∀ args w, (callFunc g args).run Tryz.prog w = .ok (.enter g args) w) (n cap : Nat) (a : Option Addr) (w : World) (hn : n ≤ maxLen)
    (hcell : ∀ i, i < n → ∃ b off, a = some ⟨b, off, none⟩ ∧ w.cell? ⟨b, off + i * 2, none⟩ = some (.string (s i)) ∧ w.cell? ⟨b, off + i * 2 + 1, none⟩ = some (.int .i64 (z i)))
    (hc : ∀ i, i < n → ∀ W, Below w.heap.size w W → Calls Tryz.prog g (#[(.agg #[.string (s i), .int .i64 (z i)])] ++ lb) W fun e w' => e = .returned (.bool (q i)) ∧ Below W.heap.size W w') :
    Calls Tryz.prog 76 #[.slice a n cap, .func (.func g) #[] lb] w fun e w' => e = .returned (.bool (allN n q)) ∧ Below w.heap.size w w' := by
  go_enter Tryz.func76, Tryz.ntmps76
  go_wp2_with fail
  obtain ⟨W1, hW1⟩ : ∃ W, W = w.alloc (.cells #[.func (.func g) #[] lb] 152) := ⟨_, rfl⟩
  have hB1 : Below w.heap.size w W1 := by rw [hW1]; exact below_alloc w _
  have c0 : W1.cell? ⟨w.heap.size, 0, none⟩ = some (.func (.func g) #[] lb) := by rw [hW1]; simp [go_sem]
  rw [← hW1]
  clear hW1
  refine (containsSaid_any (fun i => !q i) s z 110 #[.pointer (some ⟨w.heap.size, 0, none⟩)] (enters_of Tryz.func110 (by kernel_rfl) rfl) n cap a W1 hn (fun i hi => ?_) (fun i hi W hW => ?_)).mono ?_
  · obtain ⟨b, off, ea, e0, e1⟩ := hcell i hi
    exact ⟨b, off, ea, cell_grown hB1 e0, cell_grown hB1 e1⟩
  · exact fitsSaid_any (q i) (s i) (z i) g lb eg w.heap.size W1.heap.size W1 W hW hW.size (cell_below hW (lt_of_cell c0) c0) (fun W' hW' => (hc i hi W' (below_then hB1 hW')).mono (fun e w' h => ⟨h.1, below_then hW' h.2⟩))
  rintro e w' ⟨rfl, hb⟩
  go_wp2_with fail
  go_ret
  exact ⟨by rw [anyN_not]; rfl, below_then hB1 hb⟩

set_option maxRecDepth 100000 in
set_option maxHeartbeats 1000000 in
theorem indexSwap_any (q : Nat → Bool) (k : Nat → Int) (z : Nat → Int) (y : Nat → Int) (g : Nat) (lb : Array Value) (eg : ∀ args w, (callFunc g args).run Tryz.prog w = .ok (.enter g args) w) (n cap : Nat) (a : Option Addr) (w : World) (hn : n ≤ maxLen)
    (hcell : ∀ i, i < n → ∃ b off, a = some ⟨b, off, none⟩ ∧ w.cell? ⟨b, off + i * 3, none⟩ = some (.int .u8 (k i)) ∧ w.cell? ⟨b, off + i * 3 + 1, none⟩ = some (.int .i64 (z i)) ∧ w.cell? ⟨b, off + i * 3 + 2, none⟩ = some (.int .i64 (y i)))
    (hc : ∀ i, i < n → ∀ W, Below w.heap.size w W → Calls Tryz.prog g (#[(.agg #[.int .u8 (k i), .int .i64 (z i), .int .i64 (y i)])] ++ lb) W fun e w' => e = .returned (.bool (q i)) ∧ Below w.heap.size w w') :
    Calls Tryz.prog 128 #[.slice a n cap, .func (.func g) #[] lb] w fun e w' => ∃ z : Int, e = .returned (.int .i64 z) ∧ Below w.heap.size w w' ∧ Hid (decide (0 ≤ z) = anyN n q) := by
  have hn' := hn
  unfold maxLen at hn'
  go_enter Tryz.func128, Tryz.ntmps128
  go_wp2
  go_loopg [5, 8] n (fun gg _ s8 wr => ∃ kk : Nat, kk ≤ n ∧ n - kk ≤ gg ∧ s8 = .int .i64 kk ∧ Aside (Below w.heap.size w wr) ∧ Aside (∀ j, j < kk → q j = false))
  case atStart => exact ⟨0, Nat.zero_le _, by omega, rfl, Below.refl _ w, fun j hj => absurd hj (Nat.not_lt_zero _)⟩
  case round =>
    obtain ⟨kk, hkk, hg, rfl, BW, A⟩ := hrel
    by_cases hlt : kk < n
    · have hltz : (kk : Int) < (n : Int) := by omega
      obtain ⟨b, off, ea, e0, e1, e2⟩ := hcell kk hlt
      subst ea
      have gb0 := lt_of_cell e0
      replace e0 := cell_below BW.out gb0 e0
      replace e1 := cell_below BW.out gb0 e1
      replace e2 := cell_below BW.out gb0 e2
      have gb := lt_of_cell e0
      have hcall := hc kk hlt wr BW.out
      clear hc hcell gb0
      generalize k kk = kx at *
      generalize z kk = zx at *
      generalize y kk = yx at *
      generalize hqv : q kk = qx at hcall
      have HQ := hid hqv
      clear hqv
      cases qx with
      | true =>
        go_wp2_with (go_at_fn g; refine hcall.mono ?_; rintro e w' ⟨rfl, hb'⟩)
        go_ret
        exact ⟨kk, rfl, hb', hid (by rw [anyN_true hlt HQ.out]; simp)⟩
      | false =>
        go_wp2_with (go_at_fn g; refine hcall.mono ?_; rintro e w' ⟨rfl, hb'⟩)
        go_roundg (n - (kk + 1))
        case measure => omega
        case rel =>
          refine ⟨kk + 1, by omega, by omega, by go_num, hb', (show Aside _ from fun j hj => ?_)⟩
          by_cases e : j = kk
          · subst e
            exact HQ.out
          · exact A.out j (by omega)
    · have hltz : ¬ (kk : Int) < (n : Int) := by omega
      have hkn : kk = n := by omega
      subst hkn
      go_wp2
      go_ret
      exact ⟨-1, rfl, BW.out, hid (by rw [anyN_false A.out]; rfl)⟩

set_option maxHeartbeats 400000 in
theorem containsSwap_any (q : Nat → Bool) (k : Nat → Int) (z : Nat → Int) (y : Nat → Int) (g : Nat) (lb : Array Value) (eg : ∀ args w, (callFunc g args).run Tryz.prog w = .ok (.enter g args) w) (n cap : Nat) (a : Option Addr) (w : World) (hn : n ≤ maxLen)
    (hcell : ∀ i, i < n → ∃ b off, a = some ⟨b, off, none⟩ ∧ w.cell? ⟨b, off + i * 3, none⟩ = some (.int .u8 (k i)) ∧ w.cell? ⟨b, off + i * 3 + 1, none⟩ = some (.int .i64 (z i)) ∧ w.cell? ⟨b, off + i * 3 + 2, none⟩ = some (.int .i64 (y i)))
    (hc : ∀ i, i < n → ∀ W, Below w.heap.size w W → Calls Tryz.prog g (#[(.agg #[.int .u8 (k i), .int .i64 (z i), .int .i64 (y i)])] ++ lb) W fun e w' => e = .returned (.bool (q i)) ∧ Below w.heap.size w w') :
    Calls Tryz.prog 98 #[.slice a n cap, .func (.func g) #[] lb] w fun e w' => e = .returned (.bool (anyN n q)) ∧ Below w.heap.size w w' := by
  go_enter Tryz.func98, Tryz.ntmps98
  go_wp2_with (go_at_call 128; refine (indexSwap_any q k z y g lb eg n cap a w hn hcell hc).mono ?_; rintro e w' ⟨z, rfl, hb, hz⟩; refine Hid.out ?_)
  refine hid ?_
  have HZ := hid hz.out
  clear hz
  go_wp2
  go_ret
  exact ⟨by rw [← HZ.out]; rfl, hb⟩

set_option maxHeartbeats 400000 in
theorem fitsSwap_any (qx : Bool) (kx : Int) (zx : Int) (yx : Int) (g : Nat) (lb : Array Value) (eg : ∀ args w, (callFunc g args).run Tryz.prog w = .ok (.enter g args) w) (fb B : Nat) (w0 w : World) (hB : Below B w0 w) (hBw : B ≤ w.heap.size) (hf : w.cell? ⟨fb, 0, none⟩ = some (.func (.func g) #[] lb))
    (hc : ∀ W, Below B w0 W → Calls Tryz.prog g (#[(.agg #[.int .u8 kx, .int .i64 zx, .int .i64 yx])] ++ lb) W fun e w' => e = .returned (.bool qx) ∧ Below B w0 w') :
    Calls Tryz.prog 99 #[(.agg #[.int .u8 kx, .int .i64 zx, .int .i64 yx]), .pointer (some ⟨fb, 0, none⟩)] w fun e w' => e = .returned (.bool (!qx)) ∧ Below B w0 w' := by
  have hfb := lt_of_cell hf
  go_enter Tryz.func99, Tryz.ntmps99
  go_wp2_with fail
  refine (hc _ (hB.trans ((below_alloc w _).mono hBw))).mono ?_
  rintro e w' ⟨rfl, hb'⟩
  go_wp2
  go_ret
  exact ⟨rfl, hb'⟩

set_option maxHeartbeats 400000 in
theorem allSwap_any (q : Nat → Bool) (k : Nat → Int) (z : Nat → Int) (y : Nat → Int) (g : Nat) (lb : Array Value) (eg : ∀ args w, (callFunc g args).run Tryz.prog w = .ok (.enter g args) w) (n cap : Nat) (a : Option Addr) (w : World) (hn : n ≤ maxLen)
    (hcell : ∀ i, i < n → ∃ b off, a = some ⟨b, off, none⟩ ∧ w.cell? ⟨b, off + i * 3, none⟩ = some (.int .u8 (k i)) ∧ w.cell? ⟨b, off + i * 3 + 1, none⟩ = some (.int .i64 (z i)) ∧ w.cell? ⟨b, off + i * 3 + 2, none⟩ = some (.int .i64 (y i)))
    (hc : ∀ i, i < n → ∀ W, Below w.heap.size w W → Calls Tryz.prog g (#[(.agg #[.int .u8 (k i), .int .i64 (z i), .int .i64 (y i)])] ++ lb) W fun e w' => e = .returned (.bool (q i)) ∧ Below W.heap.size W w') :
    Calls Tryz.prog 66 #[.slice a n cap, .func (.func g) #[] lb] w fun e w' => e = .returned (.bool (allN n q)) ∧ Below w.heap.size w w' := by
  go_enter Tryz.func66, Tryz.ntmps66
  go_wp2_with fail
  obtain ⟨W1, hW1⟩ : ∃ W, W = w.alloc (.cells #[.func (.func g) #[] lb] 143) := ⟨_, rfl⟩
  have hB1 : Below w.heap.size w W1 := by rw [hW1]; exact below_alloc w _
  have c0 : W1.cell? ⟨w.heap.size, 0, none⟩ = some (.func (.func g) #[] lb) := by rw [hW1]; simp [go_sem]
  rw [← hW1]
  clear hW1
  refine (containsSwap_any (fun i => !q i) k z y 99 #[.pointer (some ⟨w.heap.size, 0, none⟩)] (enters_of Tryz.func99 (by kernel_rfl) rfl) n cap a W1 hn (fun i hi => ?_) (fun i hi W hW => ?_)).mono ?_
  · obtain ⟨b, off, ea, e0, e1, e2⟩ := hcell i hi
    exact ⟨b, off, ea, cell_grown hB1 e0, cell_grown hB1 e1, cell_grown hB1 e2⟩
  · exact fitsSwap_any (q i) (k i) (z i) (y i) g lb eg w.heap.size W1.heap.size W1 W hW hW.size (cell_below hW (lt_of_cell c0) c0) (fun W' hW' => (hc i hi W' (below_then hB1 hW')).mono (fun e w' h => ⟨h.1, below_then hW' h.2⟩))
  rintro e w' ⟨rfl, hb⟩
  go_wp2_with fail
  go_ret
  exact ⟨by rw [anyN_not]; rfl, below_then hB1 hb⟩

set_option maxRecDepth 100000 in
set_option maxHeartbeats 1000000 in
theorem indexList_any (q : Nat → Bool) (sa : Nat → (Option Addr)) (sn : Nat → Nat) (sc : Nat → Nat) (g : Nat) (lb : Array Value) (eg : ∀ args w, (callFunc g args).run Tryz.prog w = .ok (.enter g args) w) (n cap : Nat) (a : Option Addr) (w : World) (hn : n ≤ maxLen)
    (hcell : ∀ i, i < n → ∃ b off, a = some ⟨b, off, none⟩ ∧ w.cell? ⟨b, off + i, none⟩ = some (.slice (sa i) (sn i) (sc i)))
    (hc : ∀ i, i < n → ∀ W, Below w.heap.size w W → Calls Tryz.prog g (#[(.slice (sa i) (sn i) (sc i))] ++ lb) W fun e w' => e = .returned (.bool (q i)) ∧ Below w.heap.size w w') :
    Calls Tryz.prog 129 #[.slice a n cap, .func (.func g) #[] lb] w fun e w' => ∃ z : Int, e = .returned (.int .i64 z) ∧ Below w.heap.size w w' ∧ Hid (decide (0 ≤ z) = anyN n q) := by
  have hn' := hn
  unfold maxLen at hn'
  go_enter Tryz.func129, Tryz.ntmps129
  go_wp2
  go_loopg [5, 8] n (fun gg _ s8 wr => ∃ kk : Nat, kk ≤ n ∧ n - kk ≤ gg ∧ s8 = .int .i64 kk ∧ Aside (Below w.heap.size w wr) ∧ Aside (∀ j, j < kk → q j = false))
  case atStart => exact ⟨0, Nat.zero_le _, by omega, rfl, Below.refl _ w, fun j hj => absurd hj (Nat.not_lt_zero _)⟩
  case round =>
    obtain ⟨kk, hkk, hg, rfl, BW, A⟩ := hrel
    by_cases hlt : kk < n
    · have hltz : (kk : Int) < (n : Int) := by omega
      obtain ⟨b, off, ea, e0⟩ := hcell kk hlt
      subst ea
      have gb0 := lt_of_cell e0
      replace e0 := cell_below BW.out gb0 e0
      have gb := lt_of_cell e0
      have hcall := hc kk hlt wr BW.out
      clear hc hcell gb0
      generalize sa kk = sax at *
      generalize sn kk = snx at *
      generalize sc kk = scx at *
      generalize hqv : q kk = qx at hcall
      have HQ := hid hqv
      clear hqv
      cases qx with
      | true =>
        go_wp2_with (go_at_fn g; refine hcall.mono ?_; rintro e w' ⟨rfl, hb'⟩)
        go_ret
        exact ⟨kk, rfl, hb', hid (by rw [anyN_true hlt HQ.out]; simp)⟩
      | false =>
        go_wp2_with (go_at_fn g; refine hcall.mono ?_; rintro e w' ⟨rfl, hb'⟩)
        go_roundg (n - (kk + 1))
        case measure => omega
        case rel =>
          refine ⟨kk + 1, by omega, by omega, by go_num, hb', (show Aside _ from fun j hj => ?_)⟩
          by_cases e : j = kk
          · subst e
            exact HQ.out
          · exact A.out j (by omega)
    · have hltz : ¬ (kk : Int) < (n : Int) := by omega
      have hkn : kk = n := by omega
      subst hkn
      go_wp2
      go_ret
      exact ⟨-1, rfl, BW.out, hid (by rw [anyN_false A.out]; rfl)⟩

set_option maxHeartbeats 400000 in
theorem containsList_any (q : Nat → Bool) (sa : Nat → (Option Addr)) (sn : Nat → Nat) (sc : Nat → Nat) (g : Nat) (lb : Array Value) (eg : ∀ args w, (callFunc g args).run Tryz.prog w = .ok (.enter g args) w) (n cap : Nat) (a : Option Addr) (w : World) (hn : n ≤ maxLen)
    (hcell : ∀ i, i < n → ∃ b off, a = some ⟨b, off, none⟩ ∧ w.cell? ⟨b, off + i, none⟩ = some (.slice (sa i) (sn i) (sc i)))
    (hc : ∀ i, i < n → ∀ W, Below w.heap.size w W → Calls Tryz.prog g (#[(.slice (sa i) (sn i) (sc i))] ++ lb) W fun e w' => e = .returned (.bool (q i)) ∧ Below w.heap.size w w') :
    Calls Tryz.prog 100 #[.slice a n cap, .func (.func g) #[] lb] w fun e w' => e = .returned (.bool (anyN n q)) ∧ Below w.heap.size w w' := by
  go_enter Tryz.func100, Tryz.ntmps100
  go_wp2_with (go_at_call 129; refine (indexList_any q sa sn sc g lb eg n cap a w hn hcell hc).mono ?_; rintro e w' ⟨z, rfl, hb, hz⟩; refine Hid.out ?_)
  refine hid ?_
  have HZ := hid hz.out
  clear hz
  go_wp2
  go_ret
  exact ⟨by rw [← HZ.out]; rfl, hb⟩

set_option maxHeartbeats 400000 in
theorem fitsList_any (qx : Bool) (sax : (Option Addr)) (snx : Nat) (scx : Nat) (g : Nat) (lb : Array Value) (eg : ∀ args w, (callFunc g args).run Tryz.prog w = .ok (.enter g args) w) (fb B : Nat) (w0 w : World) (hB : Below B w0 w) (_hBw : B ≤ w.heap.size) (hf : w.cell? ⟨fb, 0, none⟩ = some (.func (.func g) #[] lb))
    (hc : ∀ W, Below B w0 W → Calls Tryz.prog g (#[(.slice sax snx scx)] ++ lb) W fun e w' => e = .returned (.bool qx) ∧ Below B w0 w') :
    Calls Tryz.prog 101 #[(.slice sax snx scx), .pointer (some ⟨fb, 0, none⟩)] w fun e w' => e = .returned (.bool (!qx)) ∧ Below B w0 w' := by
  have hfb := lt_of_cell hf
  go_enter Tryz.func101, Tryz.ntmps101
  go_wp2_with (go_at_fn g; refine (hc _ hB).mono ?_; rintro e w' ⟨rfl, hb'⟩)
  go_ret
  exact ⟨rfl, hb'⟩

set_option maxHeartbeats 400000 in
theorem allList_any (q : Nat → Bool) (sa : Nat → (Option Addr)) (sn : Nat → Nat) (sc : Nat → Nat) (g : Nat) (lb : Array Value) (eg : ∀ args w, (callFunc g args).run Tryz.prog w = .ok (.enter g args) w) (n cap : Nat) (a : Option Addr) (w : World) (hn : n ≤ maxLen)
    (hcell : ∀ i, i < n → ∃ b off, a = some ⟨b, off, none⟩ ∧ w.cell? ⟨b, off + i, none⟩ = some (.slice (sa i) (sn i) (sc i)))
    (hc : ∀ i, i < n → ∀ W, Below w.heap.size w W → Calls Tryz.prog g (#[(.slice (sa i) (sn i) (sc i))] ++ lb) W fun e w' => e = .returned (.bool (q i)) ∧ Below W.heap.size W w') :
    Calls Tryz.prog 68 #[.slice a n cap, .func (.func g) #[] lb] w fun e w' => e = .returned (.bool (allN n q)) ∧ Below w.heap.size w w' := by
  go_enter Tryz.func68, Tryz.ntmps68
  go_wp2_with fail
  obtain ⟨W1, hW1⟩ : ∃ W, W = w.alloc (.cells #[.func (.func g) #[] lb] 145) := ⟨_, rfl⟩
  have hB1 : Below w.heap.size w W1 := by rw [hW1]; exact below_alloc w _
  have c0 : W1.cell? ⟨w.heap.size, 0, none⟩ = some (.func (.func g) #[] lb) := by rw [hW1]; simp [go_sem]
  rw [← hW1]
  clear hW1
  refine (containsList_any (fun i => !q i) sa sn sc 101 #[.pointer (some ⟨w.heap.size, 0, none⟩)] (enters_of Tryz.func101 (by kernel_rfl) rfl) n cap a W1 hn (fun i hi => ?_) (fun i hi W hW => ?_)).mono ?_
  · obtain ⟨b, off, ea, e0⟩ := hcell i hi
    exact ⟨b, off, ea, cell_grown hB1 e0⟩
  · exact fitsList_any (q i) (sa i) (sn i) (sc i) g lb eg w.heap.size W1.heap.size W1 W hW hW.size (cell_below hW (lt_of_cell c0) c0) (fun W' hW' => (hc i hi W' (below_then hB1 hW')).mono (fun e w' h => ⟨h.1, below_then hW' h.2⟩))
  rintro e w' ⟨rfl, hb⟩
  go_wp2_with fail
  go_ret
  exact ⟨by rw [anyN_not]; rfl, below_then hB1 hb⟩

end Go.Proofs.YtbampfkmgjfofaaGreatDoor
