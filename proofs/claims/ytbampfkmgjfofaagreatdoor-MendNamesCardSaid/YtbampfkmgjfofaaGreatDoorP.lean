/- The contracts of Go's own library that are leaned on, laid at this translation: the numbers, and that each body is the one spoken of. Mend: what a text means: the method mark. Mend: the sense of texts: the method sense. Mend: CheckLexicon and Sense. -/
import Derived.Shelf.Strconv.AtoiAll
import Derived.Shelf.Strconv.Itoa3
import Derived.Ground.NamesProg
import Derived.Test.YtbampfkmgjfofaaGreatDoorRows
import Derived.Test.YtbampfkmgjfofaaGreatDoorL
import Derived.Lib.AppendIntMem
import Derived.Lib.AtoiBound
import Derived.Lib.AtoiErrMem
namespace Go.Proofs.YtbampfkmgjfofaaGreatDoor
open Go.Shelf
def atoiL_ren : Go.Shelf.Ren := ⟨fun | 172 => 106 | 244 => 133 | 245 => 134 | 247 => 150 | 279 => 151 | 280 => 152 | 281 => 153 | 282 => 154 | 287 => 169 | 316 => 170 | 171 => 107 | 205 => 171 | 321 => 182 | 322 => 183 | 243 => 135 | 246 => 155 | 283 => 172 | 284 => 173 | 285 => 174 | 286 => 175 | 129 => 168 | 317 => 184 | 318 => 185 | 319 => 186 | 320 => 187 | 337 => 190 | 338 => 191 | n => n, fun | 9 => 9 | 3 => 3 | 75 => 178 | 76 => 179 | 4 => 4 | 5 => 5 | 167 => 206 | 37 => 175 | 0 => 0 | 85 => 207 | 2 => 2 | 168 => 209 | 53 => 226 | 175 => 227 | 46 => 203 | 210 => 231 | 127 => 244 | 145 => 247 | 143 => 245 | 21 => 21 | 171 => 233 | 173 => 235 | 212 => 250 | 51 => 224 | 20 => 20 | 213 => 251 | 232 => 255 | 233 => 256 | 80 => 257 | n => n, fun | 15 => 0 | 16 => 1 | 17 => 2 | 18 => 3 | 19 => 4 | n => n⟩
theorem atoiL : Go.Proofs.LaysC.n172 Tryz.prog atoiL_ren := {
  mixed := by kernel_rfl
  f129 := Tryz.func168.trans (congrArg some (by kernel_rfl))
  f171 := Tryz.func107.trans (congrArg some (by kernel_rfl))
  f172 := Tryz.func106.trans (congrArg some (by kernel_rfl))
  f205 := Tryz.func171.trans (congrArg some (by kernel_rfl))
  f243 := Tryz.func135.trans (congrArg some (by kernel_rfl))
  f244 := Tryz.func133.trans (congrArg some (by kernel_rfl))
  f245 := Tryz.func134.trans (congrArg some (by kernel_rfl))
  f246 := Tryz.func155.trans (congrArg some (by kernel_rfl))
  f247 := Tryz.func150.trans (congrArg some (by kernel_rfl))
  f279 := Tryz.func151.trans (congrArg some (by kernel_rfl))
  f280 := Tryz.func152.trans (congrArg some (by kernel_rfl))
  f281 := Tryz.func153.trans (congrArg some (by kernel_rfl))
  f282 := Tryz.func154.trans (congrArg some (by kernel_rfl))
  f283 := Tryz.func172.trans (congrArg some (by kernel_rfl))
  f284 := Tryz.func173.trans (congrArg some (by kernel_rfl))
  f285 := Tryz.func174.trans (congrArg some (by kernel_rfl))
  f286 := Tryz.func175.trans (congrArg some (by kernel_rfl))
  f287 := Tryz.func169.trans (congrArg some (by kernel_rfl))
  f316 := Tryz.func170.trans (congrArg some (by kernel_rfl))
  f317 := Tryz.func184.trans (congrArg some (by kernel_rfl))
  f318 := Tryz.func185.trans (congrArg some (by kernel_rfl))
  f319 := Tryz.func186.trans (congrArg some (by kernel_rfl))
  f320 := Tryz.func187.trans (congrArg some (by kernel_rfl))
  f321 := Tryz.func182.trans (congrArg some (by kernel_rfl))
  f322 := Tryz.func183.trans (congrArg some (by kernel_rfl))
  f337 := Tryz.func190.trans (congrArg some (by kernel_rfl))
  f338 := Tryz.func191.trans (congrArg some (by kernel_rfl))
  t0 := Tryz.underlying0
  a0 := Tryz.isAgg0
  z0 := Tryz.sizeOf0
  v0 := Tryz.zeroValue0
  t2 := Tryz.underlying2
  a2 := Tryz.isAgg2
  z2 := Tryz.sizeOf2
  v2 := Tryz.zeroValue2
  t3 := Tryz.underlying3
  a3 := Tryz.isAgg3
  z3 := Tryz.sizeOf3
  v3 := Tryz.zeroValue3
  t4 := Tryz.underlying4
  a4 := Tryz.isAgg4
  z4 := Tryz.sizeOf4
  v4 := Tryz.zeroValue4
  t5 := Tryz.underlying5
  a5 := Tryz.isAgg5
  z5 := Tryz.sizeOf5
  v5 := Tryz.zeroValue5
  t9 := Tryz.underlying9
  a9 := Tryz.isAgg9
  z9 := Tryz.sizeOf9
  v9 := Tryz.zeroValue9
  t20 := Tryz.underlying20
  a20 := Tryz.isAgg20
  z20 := Tryz.sizeOf20
  v20 := Tryz.zeroValue20
  t21 := Tryz.underlying21
  a21 := Tryz.isAgg21
  z21 := Tryz.sizeOf21
  v21 := Tryz.zeroValue21
  t37 := Tryz.underlying175
  a37 := Tryz.isAgg175
  z37 := Tryz.sizeOf175
  v37 := Tryz.zeroValue175
  t46 := Tryz.underlying203
  a46 := Tryz.isAgg203
  z46 := Tryz.sizeOf203
  v46 := Tryz.zeroValue203
  t51 := Tryz.underlying224
  a51 := Tryz.isAgg224
  z51 := Tryz.sizeOf224
  v51 := Tryz.zeroValue224
  t53 := Tryz.underlying226
  a53 := Tryz.isAgg226
  z53 := Tryz.sizeOf226
  v53 := Tryz.zeroValue226
  t75 := Tryz.underlying178
  a75 := Tryz.isAgg178
  z75 := Tryz.sizeOf178
  v75 := Tryz.zeroValue178
  t76 := Tryz.underlying179
  a76 := Tryz.isAgg179
  z76 := Tryz.sizeOf179
  v76 := Tryz.zeroValue179
  t85 := Tryz.underlying207
  a85 := Tryz.isAgg207
  z85 := Tryz.sizeOf207
  v85 := Tryz.zeroValue207
  t127 := Tryz.underlying244
  a127 := Tryz.isAgg244
  z127 := Tryz.sizeOf244
  v127 := Tryz.zeroValue244
  t143 := Tryz.underlying245
  a143 := Tryz.isAgg245
  z143 := Tryz.sizeOf245
  v143 := Tryz.zeroValue245
  t145 := Tryz.underlying247
  a145 := Tryz.isAgg247
  z145 := Tryz.sizeOf247
  v145 := Tryz.zeroValue247
  t167 := Tryz.underlying206
  a167 := Tryz.isAgg206
  z167 := Tryz.sizeOf206
  v167 := Tryz.zeroValue206
  t168 := Tryz.underlying209
  a168 := Tryz.isAgg209
  z168 := Tryz.sizeOf209
  v168 := Tryz.zeroValue209
  t171 := Tryz.underlying233
  a171 := Tryz.isAgg233
  z171 := Tryz.sizeOf233
  v171 := Tryz.zeroValue233
  t173 := Tryz.underlying235
  a173 := Tryz.isAgg235
  z173 := Tryz.sizeOf235
  v173 := Tryz.zeroValue235
  t175 := Tryz.underlying227
  a175 := Tryz.isAgg227
  z175 := Tryz.sizeOf227
  v175 := Tryz.zeroValue227
  t210 := Tryz.underlying231
  a210 := Tryz.isAgg231
  z210 := Tryz.sizeOf231
  v210 := Tryz.zeroValue231
  t212 := Tryz.underlying250
  a212 := Tryz.isAgg250
  z212 := Tryz.sizeOf250
  v212 := Tryz.zeroValue250
  t213 := Tryz.underlying251
  a213 := Tryz.isAgg251
  z213 := Tryz.sizeOf251
  t232 := Tryz.underlying255
  a232 := Tryz.isAgg255
  z232 := Tryz.sizeOf255
  v232 := Tryz.zeroValue255
  t233 := Tryz.underlying256
  a233 := Tryz.isAgg256
  z233 := Tryz.sizeOf256
  v233 := Tryz.zeroValue256
  g15 := by kernel_rfl
  g16 := by kernel_rfl
  g17 := by kernel_rfl
  g18 := by kernel_rfl
  g19 := by kernel_rfl
  t80 := Tryz.underlying257
  a80 := Tryz.isAgg257
  z80 := Tryz.sizeOf257
  v80 := Tryz.zeroValue257
  i0 := by kernel_rfl
  i2 := by kernel_rfl
  i3 := by kernel_rfl
  i4 := by kernel_rfl
  i5 := by kernel_rfl
  i9 := by kernel_rfl
  i20 := by kernel_rfl
  i21 := by kernel_rfl
  i37 := by kernel_rfl
  i46 := by kernel_rfl
  i51 := by kernel_rfl
  i53 := by kernel_rfl
  i75 := by kernel_rfl
  i76 := by kernel_rfl
  i80 := by kernel_rfl
  i85 := by kernel_rfl
  i127 := by kernel_rfl
  i143 := by kernel_rfl
  i145 := by kernel_rfl
  i167 := by kernel_rfl
  i168 := by kernel_rfl
  i171 := by kernel_rfl
  i173 := by kernel_rfl
  i175 := by kernel_rfl
  i210 := by kernel_rfl
  i212 := by kernel_rfl
  i232 := by kernel_rfl
  i233 := by kernel_rfl
  m15 := by kernel_rfl
  m16 := by kernel_rfl
  m17 := by kernel_rfl
  m18 := by kernel_rfl
  m19 := by kernel_rfl
  c0 := by kernel_rfl
  c2 := by kernel_rfl
  c3 := by kernel_rfl
  c4 := by kernel_rfl
  c5 := by kernel_rfl
  c9 := by kernel_rfl
  c20 := by kernel_rfl
  c21 := by kernel_rfl
  c37 := by kernel_rfl
  c46 := by kernel_rfl
  c51 := by kernel_rfl
  c53 := by kernel_rfl
  c75 := by kernel_rfl
  c76 := by kernel_rfl
  c80 := by kernel_rfl
  c85 := by kernel_rfl
  c127 := by kernel_rfl
  c143 := by kernel_rfl
  c145 := by kernel_rfl
  c167 := by kernel_rfl
  c168 := by kernel_rfl
  c171 := by kernel_rfl
  c173 := by kernel_rfl
  c175 := by kernel_rfl
  c210 := by kernel_rfl
  c212 := by kernel_rfl
  c213 := by kernel_rfl
  c232 := by kernel_rfl
  c233 := by kernel_rfl }
def itoaL_ren : Go.Shelf.Ren := ⟨fun | 171 => 107 | 243 => 135 | 246 => 155 | 283 => 172 | 284 => 173 | 285 => 174 | 286 => 175 | 129 => 168 | 317 => 184 | 318 => 185 | 319 => 186 | 320 => 187 | 337 => 190 | 338 => 191 | n => n, fun | 3 => 3 | 9 => 9 | 2 => 2 | 4 => 4 | 171 => 233 | 0 => 0 | 53 => 226 | 37 => 175 | 5 => 5 | 173 => 235 | 212 => 250 | 51 => 224 | 20 => 20 | 213 => 251 | 46 => 203 | 232 => 255 | 233 => 256 | n => n, fun | 17 => 2 | 18 => 3 | 19 => 4 | n => n⟩
theorem itoaL : Go.Proofs.LaysM.n171 Tryz.prog itoaL_ren := {
  mixed := by kernel_rfl
  f129 := Tryz.func168.trans (congrArg some (by kernel_rfl))
  f171 := Tryz.func107.trans (congrArg some (by kernel_rfl))
  f243 := Tryz.func135.trans (congrArg some (by kernel_rfl))
  f246 := Tryz.func155.trans (congrArg some (by kernel_rfl))
  f283 := Tryz.func172.trans (congrArg some (by kernel_rfl))
  f284 := Tryz.func173.trans (congrArg some (by kernel_rfl))
  f285 := Tryz.func174.trans (congrArg some (by kernel_rfl))
  f286 := Tryz.func175.trans (congrArg some (by kernel_rfl))
  f317 := Tryz.func184.trans (congrArg some (by kernel_rfl))
  f318 := Tryz.func185.trans (congrArg some (by kernel_rfl))
  f319 := Tryz.func186.trans (congrArg some (by kernel_rfl))
  f320 := Tryz.func187.trans (congrArg some (by kernel_rfl))
  f337 := Tryz.func190.trans (congrArg some (by kernel_rfl))
  f338 := Tryz.func191.trans (congrArg some (by kernel_rfl))
  t0 := Tryz.underlying0
  a0 := Tryz.isAgg0
  z0 := Tryz.sizeOf0
  v0 := Tryz.zeroValue0
  t2 := Tryz.underlying2
  a2 := Tryz.isAgg2
  z2 := Tryz.sizeOf2
  v2 := Tryz.zeroValue2
  t3 := Tryz.underlying3
  a3 := Tryz.isAgg3
  z3 := Tryz.sizeOf3
  v3 := Tryz.zeroValue3
  t4 := Tryz.underlying4
  a4 := Tryz.isAgg4
  z4 := Tryz.sizeOf4
  v4 := Tryz.zeroValue4
  t5 := Tryz.underlying5
  a5 := Tryz.isAgg5
  z5 := Tryz.sizeOf5
  v5 := Tryz.zeroValue5
  t9 := Tryz.underlying9
  a9 := Tryz.isAgg9
  z9 := Tryz.sizeOf9
  v9 := Tryz.zeroValue9
  t20 := Tryz.underlying20
  a20 := Tryz.isAgg20
  z20 := Tryz.sizeOf20
  v20 := Tryz.zeroValue20
  t37 := Tryz.underlying175
  a37 := Tryz.isAgg175
  z37 := Tryz.sizeOf175
  v37 := Tryz.zeroValue175
  t46 := Tryz.underlying203
  a46 := Tryz.isAgg203
  z46 := Tryz.sizeOf203
  v46 := Tryz.zeroValue203
  t51 := Tryz.underlying224
  a51 := Tryz.isAgg224
  z51 := Tryz.sizeOf224
  v51 := Tryz.zeroValue224
  t53 := Tryz.underlying226
  a53 := Tryz.isAgg226
  z53 := Tryz.sizeOf226
  v53 := Tryz.zeroValue226
  t171 := Tryz.underlying233
  a171 := Tryz.isAgg233
  z171 := Tryz.sizeOf233
  v171 := Tryz.zeroValue233
  t173 := Tryz.underlying235
  a173 := Tryz.isAgg235
  z173 := Tryz.sizeOf235
  v173 := Tryz.zeroValue235
  t212 := Tryz.underlying250
  a212 := Tryz.isAgg250
  z212 := Tryz.sizeOf250
  v212 := Tryz.zeroValue250
  t213 := Tryz.underlying251
  a213 := Tryz.isAgg251
  z213 := Tryz.sizeOf251
  t232 := Tryz.underlying255
  a232 := Tryz.isAgg255
  z232 := Tryz.sizeOf255
  v232 := Tryz.zeroValue255
  t233 := Tryz.underlying256
  a233 := Tryz.isAgg256
  z233 := Tryz.sizeOf256
  v233 := Tryz.zeroValue256
  g17 := by kernel_rfl
  g18 := by kernel_rfl
  g19 := by kernel_rfl
  i0 := by kernel_rfl
  i2 := by kernel_rfl
  i3 := by kernel_rfl
  i4 := by kernel_rfl
  i5 := by kernel_rfl
  i9 := by kernel_rfl
  i20 := by kernel_rfl
  i37 := by kernel_rfl
  i46 := by kernel_rfl
  i51 := by kernel_rfl
  i53 := by kernel_rfl
  i171 := by kernel_rfl
  i173 := by kernel_rfl
  i212 := by kernel_rfl
  i232 := by kernel_rfl
  i233 := by kernel_rfl
  m17 := by kernel_rfl
  m18 := by kernel_rfl
  m19 := by kernel_rfl }
end Go.Proofs.YtbampfkmgjfofaaGreatDoor

namespace Go.Proofs.YtbampfkmgjfofaaGreatDoor
open Go.RowKit Go.Shelf

/-- What the library's own variables hold. -/
structure Std (w : World) : Prop where
  syn : ∃ ev, w.cell? ⟨0, 0, none⟩ = some ev ∧ (ev = .nilIface ∨ ∃ te pe, ev = .iface te pe)
  rng : ∃ ev, w.cell? ⟨1, 0, none⟩ = some ev ∧ (ev = .nilIface ∨ ∃ te pe, ev = .iface te pe)
  tab : Lib.TabIs Tryz.prog w "internal/strconv.uint64pow10" .u64 Lib.pow10Tab

theorem Std.grown {w w' : World} (h : Std w) (hb : Below w.heap.size w w') : Std w' := by
  obtain ⟨⟨e1, h1, h1'⟩, ⟨e2, h2, h2'⟩, h3⟩ := h
  exact ⟨⟨e1, cell_grown hb h1, h1'⟩, ⟨e2, cell_grown hb h2, h2'⟩, Lib.tabBelow_of_tabIs h3 w' hb⟩

/-- What a text of digits says. -/
def numM (s : Tx) : Option Int :=
  match Lib.atoiAll s.data.toList with
  | .ok v => if valueOk v && decide (Lib.itoa v = s.data.toList) then some v else none
  | _ => none

/-- What a text means, if it means something. -/
def meansM (E : List Ent) (s : Tx) : Option (Int × Int) :=
  match E.find? (fun x => decide (x.1 = s)) with
  | some x => some x.2
  | none => (numM s).map fun v => (1, v)

theorem find_of {E : List Ent} {s : Tx} {x : Ent} (hE : noTwice E = true) (hx : x ∈ E) (hs : x.1 = s) : E.find? (fun x => decide (x.1 = s)) = some x := by
  induction E with
  | nil => cases hx
  | cons y r ih =>
    unfold noTwice at hE ih
    rw [decide_eq_true_eq, List.map_cons, List.nodup_cons] at hE
    rcases List.mem_cons.1 hx with rfl | hx
    · simp [hs]
    · have hne : ¬ y.1 = s := fun e => hE.1 (List.mem_map.2 ⟨x, hx, by rw [hs, e]⟩)
      rw [List.find?_cons_of_neg (by simpa using hne)]
      exact ih (by rw [decide_eq_true_eq]; exact hE.2) hx

theorem means_in {E : List Ent} {s : Tx} {x : Ent} (hE : noTwice E = true) (hx : x ∈ E) (hs : x.1 = s) : meansM E s = some x.2 := by rw [meansM, find_of hE hx hs]
theorem means_out {E : List Ent} {s : Tx} (h : ∀ x ∈ E, x.1 ≠ s) : meansM E s = (numM s).map fun v => (1, v) := by
  have : E.find? (fun x => decide (x.1 = s)) = none := by
    rw [List.find?_eq_none]
    intro x hx
    simpa using h x hx
  rw [meansM, this]

/-- What mark returns. -/
def markEnd (o : Option (Int × Int)) : Ending :=
  match o with
  | some m => .returned (.tuple #[.agg #[.int .u8 m.1, .int .i64 m.2], .bool true])
  | none => .returned (.tuple #[.agg #[.int .u8 0, .int .i64 0], .bool false])

theorem Atoi_ok (s : ByteArray) (hmax : s.size ≤ 9223372036854775806) (v : Int) (h : Lib.atoiAll s.data.toList = .ok v) (w : World) :
    Calls Tryz.prog 106 #[.string s] w fun e w' => e = .returned (.tuple #[.int .i64 v, .nilIface]) ∧ (w' = w ∨ ∃ t, w' = Lib.bytesWorld w 5 t) := Any.strconv_Atoi_ok atoiL s hmax v h w
theorem Atoi_syntax (s : ByteArray) (hlim : s.size ≤ 281474976710656) (h : Lib.atoiAll s.data.toList = .«syntax») (ev : Value) (w : World) (hv : w.cell? ⟨0, 0, none⟩ = some ev) (hev : ev = .nilIface ∨ ∃ te pe, ev = .iface te pe) :
    Calls Tryz.prog 106 #[.string s] w fun e w' => ∃ N, e = .returned (.tuple #[.int .i64 (0), .iface 209 (.pointer (some ⟨N, 0, none⟩))]) ∧ w.heap.size ≤ N ∧ w'.heap[N]? = some (.cells #[.string ⟨#[65, 116, 111, 105]⟩, .string s, ev] 231 (0, 0)) ∧ Below w.heap.size w w' := Any.strconv_Atoi_syntax atoiL s hlim h ev w hv hev
theorem Atoi_range (s : ByteArray) (hlim : s.size ≤ 281474976710656) (h : Lib.atoiAll s.data.toList = .range) (ev : Value) (w : World) (hv : w.cell? ⟨1, 0, none⟩ = some ev) (hev : ev = .nilIface ∨ ∃ te pe, ev = .iface te pe) :
    Calls Tryz.prog 106 #[.string s] w fun e w' => ∃ N, e = .returned (.tuple #[.int .i64 (Lib.atoiSat s.data.toList), .iface 209 (.pointer (some ⟨N, 0, none⟩))]) ∧ w.heap.size ≤ N ∧ w'.heap[N]? = some (.cells #[.string ⟨#[65, 116, 111, 105]⟩, .string s, ev] 231 (0, 0)) ∧ Below w.heap.size w w' := Any.strconv_Atoi_range atoiL s hlim h ev w hv hev
theorem Itoa_all (n : Int) (h0 : -9223372036854775808 ≤ n) (h1 : n ≤ 9223372036854775807) (w : World) (htab : Lib.TabIs Tryz.prog w "internal/strconv.uint64pow10" .u64 Lib.pow10Tab) :
    Calls Tryz.prog 107 #[.int .i64 n] w fun e w' => e = .returned (.string ⟨(Lib.itoa n).toArray⟩) ∧ Below w.heap.size w w' :=
  (Any.strconv_Itoa itoaL n h0 h1 w htab).mono fun e w' ⟨he, k, os, hw⟩ => ⟨he, by rw [hw]; exact Lib.below_grow _ w (Nat.le_refl _) k os⟩

set_option maxRecDepth 100000 in
set_option maxHeartbeats 2000000 in
theorem mark_any (E : List Ent) (b : Nat) (sa : Option Addr) (sn sc : Nat) (s : Tx) (w : World) (hm : MapIs w b E) (hE : noTwice E = true) (hs : s.size ≤ 32) (hstd : Std w) :
    Calls Tryz.prog 73 #[.agg #[.map (some b), .slice sa sn sc], .string s] w fun e w' => e = markEnd (meansM E s) ∧ Below w.heap.size w w' := by
  obtain ⟨o, ho⟩ : ∃ o, meansM E s = o := ⟨_, rfl⟩
  rw [ho]
  have HO := hid ho
  clear ho
  obtain ⟨W1, hW1⟩ : ∃ W1, W1 = (w.alloc (.cells #[.map (some b), .slice sa sn sc] 116)).alloc (.cells #[.int .u8 0, .int .i64 0] 95) := ⟨_, rfl⟩
  have hB1 : Below w.heap.size w W1 := by rw [hW1]; exact ((Below.refl _ w).alloc (Nat.le_refl _) _).alloc (by simp) _
  have r2 : Box2 W1 (w.heap.size + 1) 95 (.int .u8 0) (.int .i64 0) := by rw [hW1]; have := Box2.new (w.alloc (.cells #[.map (some b), .slice sa sn sc] 116)) 95 (.int .u8 0) (.int .i64 0); rw [World.size_alloc] at this; exact this
  have c0 : W1.cell? ⟨w.heap.size, 0, none⟩ = some (.map (some b)) := by rw [hW1]; simp [go_sem]
  have hm1 := hm.grown hB1
  have hst1 := hstd.grown hB1
  have z1 : W1.heap.size = w.heap.size + 2 := by rw [hW1]; simp
  subst hW1
  have g20 := r2.c0
  have g21 := r2.c1
  have f20 := r2.f0 0
  have f21 := r2.f0 1
  rcases map_look hm1 hs with ⟨hn, hlk⟩ | ⟨x, hx, hxs, hlk⟩
  · have HO2 : Hid ((numM s).map (fun v => ((1 : Int), v)) = o) := hid (by rw [← HO.out, means_out hn])
    clear HO hm1
    go_enter Tryz.func73, Tryz.ntmps73
    go_wp2_with fail
    obtain ⟨W2, hW2⟩ : ∃ W2, W2 = (w.alloc (.cells #[.map (some b), .slice sa sn sc] 116)).alloc (.cells #[.int .u8 0, .int .i64 0] 95) := ⟨_, rfl⟩
    rw [← hW2] at hB1 r2 hst1 ⊢
    clear hW2 g20 g21 f20 f21 c0 z1 hlk
    have hmax : s.size ≤ 9223372036854775806 := by omega
    have hlim : s.size ≤ 281474976710656 := by omega
    cases ha : Lib.atoiAll s.data.toList with
    | ok v =>
      have hcon := Atoi_ok s hmax v ha W2
      have hbd := Lib.atoiAll_bounds ha
      have HO3 : Hid ((if valueOk v && decide (Lib.itoa v = s.data.toList) then some ((1 : Int), v) else none) = o) := hid (by
        rw [← HO2.out, numM, ha]
        by_cases hc : (valueOk v && decide (Lib.itoa v = s.data.toList)) = true
        · simp only [hc, if_true]; rfl
        · simp only [hc]; rfl)
      clear ha HO2
      refine hcon.mono ?_
      rintro e W3 ⟨rfl, hw3⟩
      have hb3 : Below W2.heap.size W2 W3 := by
        rcases hw3 with rfl | ⟨t, rfl⟩
        · exact Below.refl _ _
        · exact Lib.bytesWorld_below _ _ _
      clear hw3 hcon
      go_wp2_with fail
      have r3 : Box2 W3 (w.heap.size + 1) 95 (.int .u8 0) (.int .i64 0) := (hb3.block _ r2.lt).trans r2
      have hB3 := below_then hB1 hb3
      have hst3 := hst1.grown hb3
      have g20 := r3.c0
      have g21 := r3.c1
      have f20 := r3.f0 0
      have f21 := r3.f0 1
      refine (validValue_any v W3).mono ?_
      rintro e w4 ⟨rfl, rfl⟩
      cases hv : valueOk v
      · have hO : none = o := by rw [← HO3.out, hv]; rfl
        have HOO := hid hO
        clear hO hv HO3
        go_wp2
        have b2 := (r3.set0 (.int .u8 0)).set1 (.int .i64 0)
        have t20 := b2.c0
        have t21 := b2.c1
        exact bodyPost_ret (v := .tuple #[.agg #[.int .u8 0, .int .i64 0], .bool false]) (by simp [results, Tryz.f73, go_sem, t20, t21]) rfl ⟨by rw [← HOO.out]; rfl, (hB3.setCell (p := ⟨w.heap.size + 1, 0, none⟩) (by simp) _).setCell (p := ⟨w.heap.size + 1, 1, none⟩) (by simp) _⟩
      · have HV := hid hv
        clear hv
        go_wp2_with fail
        refine (Itoa_all v (by omega) (by omega) W3 hst3.tab).mono ?_
        rintro e w4 ⟨rfl, hb4⟩
        have r4 : Box2 w4 (w.heap.size + 1) 95 (.int .u8 0) (.int .i64 0) := (hb4.block _ r3.lt).trans r3
        have hB4 := below_then hB3 hb4
        clear g20 g21 f20 f21 r3
        have g20 := r4.c0
        have g21 := r4.c1
        have f20 := r4.f0 0
        have f21 := r4.f0 1
        by_cases hq : Lib.itoa v = s.data.toList
        · have hO : some ((1 : Int), v) = o := by rw [← HO3.out, HV.out, hq]; simp
          have HOO := hid hO
          have hs' : (⟨(Lib.itoa v).toArray⟩ : ByteArray) = s := by rw [hq]
          generalize (⟨(Lib.itoa v).toArray⟩ : ByteArray) = s2 at hs' ⊢
          have hqq := tx_same hs'
          clear hO HO3 hq hs'
          go_wp2
          have b2 := (r4.set0 (.int .u8 1)).set1 (.int .i64 v)
          have t20 := b2.c0
          have t21 := b2.c1
          exact bodyPost_ret (v := .tuple #[.agg #[.int .u8 1, .int .i64 v], .bool true]) (by simp [results, Tryz.f73, go_sem, t20, t21]) rfl ⟨by rw [← HOO.out]; rfl, (hB4.setCell (p := ⟨w.heap.size + 1, 0, none⟩) (by simp) _).setCell (p := ⟨w.heap.size + 1, 1, none⟩) (by simp) _⟩
        · have hO : none = o := by rw [← HO3.out, HV.out]; simp [hq]
          have HOO := hid hO
          have hs' : ¬ (⟨(Lib.itoa v).toArray⟩ : ByteArray) = s := fun h => hq (by rw [← h])
          generalize (⟨(Lib.itoa v).toArray⟩ : ByteArray) = s2 at hs' ⊢
          have hqq := tx_diff hs'
          clear hO HO3 hq hs'
          go_wp2
          have b2 := (r4.set0 (.int .u8 0)).set1 (.int .i64 0)
          have t20 := b2.c0
          have t21 := b2.c1
          exact bodyPost_ret (v := .tuple #[.agg #[.int .u8 0, .int .i64 0], .bool false]) (by simp [results, Tryz.f73, go_sem, t20, t21]) rfl ⟨by rw [← HOO.out]; rfl, (hB4.setCell (p := ⟨w.heap.size + 1, 0, none⟩) (by simp) _).setCell (p := ⟨w.heap.size + 1, 1, none⟩) (by simp) _⟩
    | «syntax» =>
      have hO : none = o := by rw [← HO2.out, numM, ha]; rfl
      have HOO := hid hO
      obtain ⟨ev, hv, hev⟩ := hst1.syn
      refine (Atoi_syntax s hlim ha ev W2 hv hev).mono ?_
      rintro e W3 ⟨N, rfl, -, -, hb3⟩
      clear hO HO2 ha
      have r3 : Box2 W3 (w.heap.size + 1) 95 (.int .u8 0) (.int .i64 0) := (hb3.block _ r2.lt).trans r2
      have hB3 := below_then hB1 hb3
      have g20 := r3.c0
      have g21 := r3.c1
      have f20 := r3.f0 0
      have f21 := r3.f0 1
      go_wp2
      have b2 := (r3.set0 (.int .u8 0)).set1 (.int .i64 0)
      have t20 := b2.c0
      have t21 := b2.c1
      exact bodyPost_ret (v := .tuple #[.agg #[.int .u8 0, .int .i64 0], .bool false]) (by simp [results, Tryz.f73, go_sem, t20, t21]) rfl ⟨by rw [← HOO.out]; rfl, (hB3.setCell (p := ⟨w.heap.size + 1, 0, none⟩) (by simp) _).setCell (p := ⟨w.heap.size + 1, 1, none⟩) (by simp) _⟩
    | range =>
      have hO : none = o := by rw [← HO2.out, numM, ha]; rfl
      have HOO := hid hO
      obtain ⟨ev, hv, hev⟩ := hst1.rng
      refine (Atoi_range s hlim ha ev W2 hv hev).mono ?_
      rintro e W3 ⟨N, rfl, -, -, hb3⟩
      clear hO HO2 ha
      have r3 : Box2 W3 (w.heap.size + 1) 95 (.int .u8 0) (.int .i64 0) := (hb3.block _ r2.lt).trans r2
      have hB3 := below_then hB1 hb3
      have g20 := r3.c0
      have g21 := r3.c1
      have f20 := r3.f0 0
      have f21 := r3.f0 1
      go_wp2
      have b2 := (r3.set0 (.int .u8 0)).set1 (.int .i64 0)
      have t20 := b2.c0
      have t21 := b2.c1
      exact bodyPost_ret (v := .tuple #[.agg #[.int .u8 0, .int .i64 0], .bool false]) (by simp [results, Tryz.f73, go_sem, t20, t21]) rfl ⟨by rw [← HOO.out]; rfl, (hB3.setCell (p := ⟨w.heap.size + 1, 0, none⟩) (by simp) _).setCell (p := ⟨w.heap.size + 1, 1, none⟩) (by simp) _⟩
  · have HO2 : Hid (some x.2 = o) := hid (by rw [← HO.out, means_in hE hx hxs])
    clear HO
    unfold markV at hlk
    go_enter Tryz.func73, Tryz.ntmps73
    go_wp2
    exact bodyPost_ret (v := .tuple #[.agg #[.int .u8 x.2.1, .int .i64 x.2.2], .bool true]) (by simp [results, Tryz.f73, go_sem]) rfl ⟨by rw [← HO2.out]; rfl, (below_alloc w _).alloc (by simp) _⟩

end Go.Proofs.YtbampfkmgjfofaaGreatDoor

namespace Go.Proofs.YtbampfkmgjfofaaGreatDoor
open Go.RowKit

/-- The sense of texts. -/
def senseM (E : List Ent) (L : List Tx) : List (Int × Int) := L.filterMap (meansM E)

theorem senseM_drop {E : List Ent} {L : List Tx} {k : Nat} (hk : k < L.length) : senseM E (L.drop k) = (match meansM E (L.getD k .empty) with | some m => [m] | none => []) ++ senseM E (L.drop (k + 1)) := by
  rw [List.drop_eq_getElem_cons hk, List.getD_eq_getElem?_getD, List.getElem?_eq_getElem hk]
  simp only [senseM, List.filterMap_cons, Option.getD_some]
  cases meansM E L[k] <;> rfl

theorem Tryz.info95 : (Tryz.prog.info? 95).map (fun i => (i.zero, i.size, i.bytes)) = some (some (.agg #[.int .u8 0, .int .i64 0]), 2, 16) := by kernel_rfl

set_option maxRecDepth 100000 in
set_option maxHeartbeats 2000000 in
theorem sense_any (E : List Ent) (b : Nat) (sa : Option Addr) (sn sc : Nat) (L : List Tx) (n cap : Nat) (a : Option Addr) (w : World) (hm : MapIs w b E) (hE : noTwice E = true) (hL : L.length = n) (hn : n ≤ 100) (hS : Strs w a L) (hs : ∀ t ∈ L, t.size ≤ 32) (hstd : Std w) :
    Calls Tryz.prog 53 #[.agg #[.map (some b), .slice sa sn sc], .slice a n cap] w fun e w' =>
      ∃ ra rc, e = .returned (.slice ra (senseM E L).length rc) ∧ w'.ownsRow w.heap.size 95 2 (.slice ra (senseM E L).length rc) (senseM E L).length (flatV markC (senseM E L)) ∧ Below w.heap.size w w' := by
  have HL := hid hL
  clear hL
  obtain ⟨i0, hi, hz0, hz1, hz2⟩ := info_parts Tryz.info95
  obtain ⟨W0, hW0⟩ : ∃ W0, W0 = w.alloc (.cells #[.map (some b), .slice sa sn sc] 116) := ⟨_, rfl⟩
  have hB0 : Below w.heap.size w W0 := by rw [hW0]; exact below_alloc w _
  have c0 : W0.cell? ⟨w.heap.size, 0, none⟩ = some (.map (some b)) := by rw [hW0]; simp [go_sem]
  have c1 : W0.cell? ⟨w.heap.size, 1, none⟩ = some (.slice sa sn sc) := by rw [hW0]; simp [go_sem]
  have z0 : W0.heap.size = w.heap.size + 1 := by rw [hW0]; simp
  go_enter Tryz.func53, Tryz.ntmps53
  go_wp2_with fail
  rw [← hW0]
  clear hW0
  go_loopw [5, 12] (fun v i wr => ∃ (k : Nat) (pre : List (Int × Int)), k ≤ n ∧ i = .int .i64 k ∧ Hid (senseM E L = pre ++ senseM E (L.drop k)) ∧ pre.length ≤ k ∧ wr.ownsRow W0.heap.size 95 2 v pre.length (flatV markC pre) ∧ Below W0.heap.size W0 wr) (fun _ i _ => n - (intOf i).toNat)
  case atStart => exact ⟨0, [], Nat.zero_le _, rfl, rfl, Nat.zero_le _, World.ownsRow_nil _ _ _ _, Below.refl _ _⟩
  case round =>
    obtain ⟨k, pre, hk, rfl, HP, hpk, hown, hB⟩ := hrel
    have hBw : Below w.heap.size w wr := below_then hB0 hB
    have hz := hB.size
    by_cases hlt : k < n
    · obtain ⟨ab, off, rfl, e1⟩ := hS k (by rw [HL.out]; exact hlt)
      replace e1 := cell_grown hBw e1
      have hst := senseM_drop (E := E) (L := L) (k := k) (by rw [HL.out]; exact hlt)
      have hsz : (L.getD k .empty).size ≤ 32 := hs _ (by
        rw [List.getD_eq_getElem?_getD, List.getElem?_eq_getElem (by rw [HL.out]; exact hlt), Option.getD_some]
        exact List.getElem_mem _)
      generalize L.getD k .empty = s at e1 hst hsz
      have gb := lt_of_cell e1
      replace hst : senseM E L = pre ++ ((match meansM E s with | some m => [m] | none => []) ++ senseM E (L.drop (k + 1))) := by rw [← hst]; exact HP.out
      have HST := hid hst
      have k0 := cell_below hB (by omega) c0
      have k1 := cell_below hB (by omega) c1
      have gw := lt_of_cell k0
      clear hst HP
      go_wp2_with fail
      refine (mark_any E b sa sn sc s wr (hm.grown hBw) hE hsz (hstd.grown hBw)).mono ?_
      rintro e w3 ⟨rfl, hb3⟩
      have hB3 : Below W0.heap.size W0 w3 := hB.trans (hb3.mono hz)
      have hz3 : W0.heap.size ≤ w3.heap.size := hB3.size
      have hown3 := owns_below hb3 hown
      cases hmm : meansM E s with
      | none =>
        have HP2 : Hid (senseM E L = pre ++ senseM E (L.drop (k + 1))) := hid (by rw [HST.out, hmm]; rfl)
        clear hmm HST
        unfold markEnd
        go_wp2
        go_roundw
        case rel => exact ⟨k + 1, pre, by omega, by go_num, HP2, by omega, hown3.alloc _, hB3.alloc hz3 _⟩
        case measure => simp [intOf]; omega
      | some m =>
        obtain ⟨m1, m2⟩ := m
        have HP2 : Hid (senseM E L = (pre ++ [(m1, m2)]) ++ senseM E (L.drop (k + 1))) := hid (by rw [HST.out, hmm]; simp)
        clear hmm HST
        unfold markEnd
        have hnew : ∀ j u, [(.int .u8 m1 : Value), .int .i64 m2][j]? = some u → ((w3.alloc (.cells #[.int .u8 m1, .int .i64 m2] 95)).alloc (.cells #[.int .u8 m1, .int .i64 m2] 95)).cell? ((⟨w3.heap.size + 1, 0, none⟩ : Addr).add j) = some u := by
          have := cell_two_new (w3.alloc (.cells #[.int .u8 m1, .int .i64 m2] 95)) (.int .u8 m1) (.int .i64 m2) 95
          rwa [World.size_alloc] at this
        have HN := hid hnew
        clear hnew
        go_wp2_with (at_builtin; refine wpList_append_own _ rfl _ _ 36 rfl W0.heap.size 95 i0 (.agg #[.int .u8 0, .int .i64 0]) 2 16 Tryz.underlying36 hi hz0 hz1 hz2 rfl (by decide) _ _ _ rfl ((hown3.alloc _).alloc _) ⟨w3.heap.size + 1, 0, none⟩ 1 1 [.int .u8 m1, .int .i64 m2] rfl rfl HN.out (fun x hx => by simp at hx; rcases hx with rfl | rfl <;> rfl) (by unfold maxLen; omega) (by omega) (by simp; omega) ?_; intro v' w5 hown' hgrow5 hnil5; have hb5 := below_of_grown (hB3.alloc hz3 _) (hown3.alloc _) hgrow5 (by simp; omega))
        go_roundw
        case rel => exact ⟨k + 1, pre ++ [(m1, m2)], by omega, by go_num, HP2, by simp; omega, by rw [List.length_append, flatV_snoc]; exact hown', hb5⟩
        case measure => simp [intOf]; omega
    · have hkn : k = n := by omega
      have HP2 : Hid (senseM E L = pre) := hid (by rw [HP.out, List.drop_eq_nil_of_le (by rw [HL.out]; omega)]; simp [senseM])
      clear HP
      obtain ⟨ra, rc, rfl⟩ := owns_shape hown
      have HO := hid hown
      clear hown
      go_wp2
      go_ret
      rw [HP2.out]
      exact ⟨ra, rc, rfl, (HO.out).mono (by omega), hBw⟩

end Go.Proofs.YtbampfkmgjfofaaGreatDoor

namespace Go.Proofs.YtbampfkmgjfofaaGreatDoor
open Go.RowKit

theorem readErr_nil (l : Lex) : readErr l [] = lexErr l := by
  unfold readErr swapsErr
  split
  · simp [*]
  · rfl

theorem swapsAt_nil (w : World) : SwapsAt w none [] := fun i hi => by simp at hi

theorem read_nil (l : Lex) (a1 a2 a3 : Option Addr) (n1 n2 n3 c1 c2 c3 : Nat) (w : World) (h1 : l.nums.length = n1) (h2 : l.names.length = n2) (h3 : l.nots.length = n3) (hL : LexAt w a1 a2 a3 l) :
    Calls Tryz.prog 51 #[.agg #[.slice a1 n1 c1, .slice a2 n2 c2, .slice a3 n3 c3], .slice none 0 0] w (ReadPost l [] none 0 0 w) :=
  read_any l a1 a2 a3 n1 n2 n3 c1 c2 c3 [] none 0 0 w h1 h2 h3 hL rfl (Nat.zero_le _) (swapsAt_nil w)

set_option maxHeartbeats 1000000 in
theorem checkLexicon_any (l : Lex) (a1 a2 a3 : Option Addr) (n1 n2 n3 c1 c2 c3 : Nat) (w : World) (h1 : l.nums.length = n1) (h2 : l.names.length = n2) (h3 : l.nots.length = n3) (hL : LexAt w a1 a2 a3 l) :
    Calls Tryz.prog 18 #[.agg #[.slice a1 n1 c1, .slice a2 n2 c2, .slice a3 n3 c3]] w fun e w' => e = .returned (.int .i64 (lexErr l)) ∧ Below w.heap.size w w' := by
  obtain ⟨z, hz⟩ : ∃ z, lexErr l = z := ⟨_, rfl⟩
  rw [hz]
  have HZ := hid hz
  clear hz
  have hB := below_alloc w (.cells #[.slice a1 n1 c1, .slice a2 n2 c2, .slice a3 n3 c3] 34)
  have hcon := read_nil l a1 a2 a3 n1 n2 n3 c1 c2 c3 _ h1 h2 h3 (hL.grown hB)
  clear h1 h2 h3
  go_enter Tryz.func18, Tryz.ntmps18
  go_wp2_with fail
  refine hcon.mono ?_
  rintro e w' ⟨hb, he⟩
  rw [readErr_nil, HZ.out] at he
  have hB2 := below_then hB hb
  by_cases h0 : z = 0
  · rw [if_pos h0] at he
    obtain ⟨b, -, rfl, -⟩ := he
    subst h0
    clear HZ
    go_wp2
    go_ret
    exact ⟨rfl, hB2.alloc hB2.size _⟩
  · rw [if_neg h0] at he
    subst he
    clear HZ h0
    go_wp2
    go_ret
    exact ⟨rfl, hB2.alloc hB2.size _⟩

theorem lists_one {w : World} {blk : Nat} {a : Option Addr} {n cap : Nat} {L : List Tx} (hL : L.length = n) (hn : n ≤ maxLen) (hS : Strs w a L) (hc : w.cell? ⟨blk, 0, none⟩ = some (.slice a n cap)) : Lists w (some ⟨blk, 0, none⟩) [L] := by
  intro i hi
  have h0 : i = 0 := by simp at hi; omega
  subst h0
  exact ⟨blk, 0, a, cap, rfl, by rw [Nat.add_zero]; show w.cell? ⟨blk, 0, none⟩ = some (.slice a L.length cap); rw [hL]; exact hc, by show L.length ≤ maxLen; rw [hL]; exact hn, hS⟩

theorem texts_ok {L : List (List Tx)} (h : textsErr L = 0) : ∀ l ∈ L, l.length ≤ 80 ∧ ∀ t ∈ l, textOk t = true := by
  unfold textsErr at h
  split at h
  · cases h
  · split at h
    · cases h
    · rename_i h1 h2
      simp only [Bool.not_eq_false, List.all_eq_true, decide_eq_true_eq] at h1 h2
      exact fun l hl => ⟨h1 l hl, h2 l hl⟩

theorem lex_ok {l : Lex} (h : lexErr l = 0) : lexOk l = true ∧ noTwice (entries l) = true := by
  unfold lexErr at h
  split at h
  · cases h
  · rename_i h1
    split at h
    · rename_i h2
      exact ⟨by simpa using h1, h2⟩
    · cases h

/-- The error of Sense. -/
def senseErr (l : Lex) (L : List Tx) : Int := if lexErr l = 0 then textsErr [L] else lexErr l

/-- What Sense returns, with its memory. -/
def SensePost (l : Lex) (L : List Tx) (w : World) (e : Ending) (w' : World) : Prop :=
  Below w.heap.size w w' ∧ if senseErr l L = 0 then ∃ ra rc, e = .returned (.tuple #[.slice ra (senseM (entries l) L).length rc, .int .i64 0]) ∧ w'.ownsRow w.heap.size 95 2 (.slice ra (senseM (entries l) L).length rc) (senseM (entries l) L).length (flatV markC (senseM (entries l) L))
    else e = .returned (.tuple #[.slice none 0 0, .int .i64 (senseErr l L)])

set_option maxRecDepth 100000 in
set_option maxHeartbeats 1000000 in
theorem senseF_any (l : Lex) (a1 a2 a3 : Option Addr) (n1 n2 n3 c1 c2 c3 : Nat) (L : List Tx) (n cap : Nat) (a : Option Addr) (w : World) (h1 : l.nums.length = n1) (h2 : l.names.length = n2) (h3 : l.nots.length = n3) (hLx : LexAt w a1 a2 a3 l)
    (hL : L.length = n) (hn : n ≤ maxLen) (hS : Strs w a L) (hstd : Std w) :
    Calls Tryz.prog 20 #[.agg #[.slice a1 n1 c1, .slice a2 n2 c2, .slice a3 n3 c3], .slice a n cap] w (SensePost l L w) := by
  have hB := below_alloc w (.cells #[.slice a1 n1 c1, .slice a2 n2 c2, .slice a3 n3 c3] 34)
  have hcon := read_nil l a1 a2 a3 n1 n2 n3 c1 c2 c3 _ h1 h2 h3 (hLx.grown hB)
  clear h1 h2 h3
  have HL := hid hL
  clear hL
  go_enter Tryz.func20, Tryz.ntmps20
  go_wp2_with fail
  refine hcon.mono ?_
  rintro e w1 ⟨hb, he⟩
  rw [readErr_nil] at he
  have hB1 := below_then hB hb
  by_cases h0 : lexErr l = 0
  · rw [if_pos h0] at he
    obtain ⟨mb, hmb, rfl, hm⟩ := he
    obtain ⟨hok, hnt⟩ := lex_ok h0
    have HSE : Hid (senseErr l L = textsErr [L]) := hid (by rw [senseErr, if_pos h0])
    clear h0 hcon
    have hBa := hB1.alloc hB1.size (.cells #[.map (some mb), .slice none 0 0] 116)
    have hBb := hBa.alloc hBa.size (.cells #[.slice a n cap] 24)
    obtain ⟨W2, hW2⟩ : ∃ W2, W2 = (w1.alloc (.cells #[.map (some mb), .slice none 0 0] 116)).alloc (.cells #[.slice a n cap] 24) := ⟨_, rfl⟩
    rw [← hW2] at hBb
    have r2 : Box2 W2 w1.heap.size 116 (.map (some mb)) (.slice none 0 0) := by rw [hW2]; exact (Box2.new w1 116 _ _).alloc _
    have c0 : W2.cell? ⟨w1.heap.size + 1, 0, none⟩ = some (.slice a n cap) := by rw [hW2]; simp [go_sem]
    have hm2 : MapIs W2 mb (entries l) := hm.kept (by rw [hW2]; exact (Below.heap_alloc _ _ _ (by have := hm.lt; simp; omega)).trans (Below.heap_alloc _ _ _ hm.lt))
    go_wp2_with fail
    rw [← hW2]
    clear hW2
    refine (checkTexts_any [L] 1 1 _ W2 rfl (by unfold maxLen; decide) (lists_one HL.out hn (hS.grown hBb) c0)).mono ?_
    rintro e w3 ⟨rfl, hb3⟩
    have hB3 := below_then hBb hb3
    have r3 : Box2 w3 w1.heap.size 116 (.map (some mb)) (.slice none 0 0) := (hb3.block _ r2.lt).trans r2
    have hm3 := hm2.grown hb3
    have g0 := r3.c0
    have g1 := r3.c1
    have gl := r3.lt
    by_cases ht : textsErr [L] = 0
    · have hto := texts_ok ht L (by simp)
      have HSE2 : Hid (senseErr l L = 0) := hid (by rw [HSE.out, ht])
      rw [ht]
      clear ht HSE
      go_wp2_with fail
      refine (sense_any (entries l) mb none 0 0 L n cap a w3 hm3 hnt HL.out (by rw [← HL.out]; omega) (hS.grown hB3) (fun t h => textOk_size (hto.2 t h)) (hstd.grown hB3)).mono ?_
      rintro e w4 ⟨ra, rc, rfl, hown, hb4⟩
      have HO := hid hown
      clear hown hto
      go_wp2
      exact bodyPost_ret (v := .tuple #[.slice ra (senseM (entries l) L).length rc, .int .i64 0]) (by simp [results, Tryz.f20, go_sem]) rfl ⟨below_then hB3 hb4, by rw [if_pos HSE2.out]; exact ⟨ra, rc, rfl, HO.out.mono hB3.size⟩⟩
    · have HSE2 : Hid (senseErr l L = textsErr [L]) := HSE
      generalize textsErr [L] = z at ht HSE2 ⊢
      clear HSE
      have HZ := hid ht
      go_wp2
      exact bodyPost_ret (v := .tuple #[.slice none 0 0, .int .i64 z]) (by simp [results, Tryz.f20, go_sem]) rfl ⟨hB3, by rw [HSE2.out, if_neg HZ.out]⟩
  · rw [if_neg h0] at he
    subst he
    have HSE2 : Hid (senseErr l L = lexErr l) := hid (by rw [senseErr, if_neg h0])
    generalize lexErr l = z at h0 HSE2 ⊢
    have HZ := hid h0
    go_wp2
    exact bodyPost_ret (v := .tuple #[.slice none 0 0, .int .i64 z]) (by simp [results, Tryz.f20, go_sem]) rfl ⟨hB1.alloc hB1.size _, by rw [HSE2.out, if_neg HZ.out]⟩

end Go.Proofs.YtbampfkmgjfofaaGreatDoor
