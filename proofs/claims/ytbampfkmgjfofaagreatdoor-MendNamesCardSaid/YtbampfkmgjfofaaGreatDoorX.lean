/- Mend: the requests in the order in which they are taken: taken. Mend: the walk of taken. Mend: the questions that are asked of a request: misses, malformed, late. -/
import Derived.Test.YtbampfkmgjfofaaGreatDoorU
import Derived.Test.YtbampfkmgjfofaaGreatDoorP
import Derived.Test.YtbampfkmgjfofaaGreatDoorR
namespace Go.Proofs.YtbampfkmgjfofaaGreatDoor
open Go.RowKit

/-- A request. -/
structure Req where
  b : Int
  m : Int
  f : Int
  c : Int
  put : List Tx

instance : Inhabited Req := ⟨⟨0, 0, 0, 0, []⟩⟩

/-- Requests, as they lie in memory. -/
def ReqsAt (w : World) (a : Option Addr) (L : List Req) : Prop :=
  ∀ i, i < L.length → ∃ b off pa pc, a = some ⟨b, off, none⟩ ∧ w.cell? ⟨b, off + i * 5, none⟩ = some (.int .i64 (L.getD i default).b) ∧ w.cell? ⟨b, off + i * 5 + 1, none⟩ = some (.int .i64 (L.getD i default).m) ∧
    w.cell? ⟨b, off + i * 5 + 2, none⟩ = some (.int .i64 (L.getD i default).f) ∧ w.cell? ⟨b, off + i * 5 + 3, none⟩ = some (.int .i64 (L.getD i default).c) ∧ w.cell? ⟨b, off + i * 5 + 4, none⟩ = some (.slice pa (L.getD i default).put.length pc) ∧
    (L.getD i default).put.length ≤ maxLen ∧ Strs w pa (L.getD i default).put

theorem ReqsAt.grown {w w' : World} {a : Option Addr} {L : List Req} (h : ReqsAt w a L) (hb : Below w.heap.size w w') : ReqsAt w' a L := fun i hi =>
  let ⟨b, off, pa, pc, ha, h0, h1, h2, h3, h4, h5, h6⟩ := h i hi
  ⟨b, off, pa, pc, ha, cell_grown hb h0, cell_grown hb h1, cell_grown hb h2, cell_grown hb h3, cell_grown hb h4, h5, h6.grown hb⟩

/-- The one is a request in memory, the other what it says. -/
def ReqIs (w : World) (x : Ask) (q : Req) : Prop := x.b = q.b ∧ x.m = q.m ∧ x.f = q.f ∧ x.c = q.c ∧ x.pn = q.put.length ∧ q.put.length ≤ maxLen ∧ Strs w x.pa q.put

theorem ReqIs.grown {w w' : World} {x : Ask} {q : Req} (h : ReqIs w x q) (hb : Below w.heap.size w w') : ReqIs w' x q := ⟨h.1, h.2.1, h.2.2.1, h.2.2.2.1, h.2.2.2.2.1, h.2.2.2.2.2.1, h.2.2.2.2.2.2.grown hb⟩

/-- Requests with their numbers, as they lie in memory. -/
def AsksAt (base : Nat) (w : World) (a : Option Addr) (T : List Ask) : Prop :=
  ∀ i, i < T.length → ∃ g off, base ≤ g ∧ a = some ⟨g, off, none⟩ ∧ w.cell? ⟨g, off + i * 6, none⟩ = some (.int .i64 (T.getD i default).b) ∧ w.cell? ⟨g, off + i * 6 + 1, none⟩ = some (.int .i64 (T.getD i default).m) ∧
    w.cell? ⟨g, off + i * 6 + 2, none⟩ = some (.int .i64 (T.getD i default).f) ∧ w.cell? ⟨g, off + i * 6 + 3, none⟩ = some (.int .i64 (T.getD i default).c) ∧
    w.cell? ⟨g, off + i * 6 + 4, none⟩ = some (.slice (T.getD i default).pa (T.getD i default).pn (T.getD i default).pc) ∧ w.cell? ⟨g, off + i * 6 + 5, none⟩ = some (.int .i64 ((T.getD i default).i : Int))

/-- The order in which requests are taken. -/
def TakenOk (w : World) (L : List Req) (T : List Ask) : Prop :=
  T.length = L.length ∧ (∀ x ∈ T, x.i < L.length ∧ ReqIs w x (L.getD x.i default)) ∧ (T.map (·.i)).Perm (List.range L.length) ∧ T.Pairwise fun x y => ltI (ltOf cmpA) (·.i) y x = false

/-! ### The row in memory -/
theorem holdsK_of_owns {w : World} {base g cap n : Nat} {L : List Ask} (h : w.ownsRow base 162 6 (.slice (some ⟨g, 0, none⟩) n cap) n (flatV askC L)) (hL : L.length = n) : Go.Sort.HoldsK askC 6 w g 0 L.toArray := by
  intro j hj
  have hj' : j < n * 6 := by simpa [hL] using hj
  refine ⟨?_, ?_⟩
  · rw [Nat.zero_add, h.cellAt j hj', Go.Sort.get_flatK _ _ _ _ (by simpa using hj)]
    have e : j = j / 6 * 6 + j % 6 := by omega
    have hd : j / 6 < L.length := by omega
    conv => lhs; rw [e]
    rw [flatV_get askC_length L default (j / 6) (j % 6) hd (by omega)]
    have hx : L.toArray[j / 6]! = L.getD (j / 6) default := by simp [List.getD_eq_getElem?_getD, hd]
    rw [hx]
    generalize L.getD (j / 6) default = x
    have hm : j % 6 < (askC x).length := by rw [askC_length]; omega
    rw [List.getElem?_eq_getElem hm]
    show _ = some ((askC x)[j % 6]!)
    rw [getElem!_pos (askC x) (j % 6) hm]
  · rw [Nat.zero_add]
    exact h.frozenAt j

theorem asks_of_holdsK {w : World} {base g : Nat} {d : Array Ask} (h : Go.Sort.HoldsK askC 6 w g 0 d) (hg : base ≤ g) : AsksAt base w (some ⟨g, 0, none⟩) d.toList := by
  intro i hi
  have hi' : i < d.size := by simpa using hi
  have hx : d[i]! = d.toList.getD i default := by
    rw [List.getD_eq_getElem?_getD]
    simp [hi']
  have key : ∀ c, c < 6 → w.cell? ⟨g, 0 + i * 6 + c, none⟩ = some (askC d[i]!)[c]! := fun c hc => (Go.Sort.HoldsK.cell h hi' hc).1
  rw [hx] at key
  exact ⟨g, 0, hg, rfl, key 0 (by omega), key 1 (by omega), key 2 (by omega), key 3 (by omega), key 4 (by omega), key 5 (by omega)⟩

theorem sortWorldK_other {w : World} {blk m b o : Nat} {dk : Array Ask} {os : Array Obj} (hb : b ≠ blk) (hl : b < w.heap.size) : (sortWorldK askC 6 w blk 0 m dk os).cell? ⟨b, o, none⟩ = w.cell? ⟨b, o, none⟩ := by
  unfold sortWorldK
  rw [Go.Sort.cell?_grow _ _ _ (by rw [Go.Sort.size_putRowK]; exact hl), Go.Sort.cell?_putRowK_other _ _ _ _ _ _ _ (by exact hb)]
  rfl

theorem sortWorldK_below {w W : World} {blk m B : Nat} {dk : Array Ask} {os : Array Obj} (h : Below B w W) (hB : B ≤ blk) (hl : blk < W.heap.size) : Below B w (sortWorldK askC 6 W blk 0 m dk os) := by
  refine h.trans ⟨rfl, rfl, rfl, ?_, fun k hk => ?_⟩
  · unfold sortWorldK
    rw [Go.Sort.size_grow, Go.Sort.size_putRowK]
    exact Nat.le_add_right _ _
  · unfold sortWorldK
    rw [Go.Sort.heap_grow_old _ _ (by rw [Go.Sort.size_putRowK]; show k < W.heap.size; omega)]
    unfold Go.Sort.putRowK Go.Sort.putRow Go.Sort.mapBlock
    show (W.heap.modify blk _)[k]? = _
    rw [Array.getElem?_modify, if_neg (by omega)]

set_option maxHeartbeats 400000 in
theorem ruleF_any (a : Option Addr) (n cap : Nat) (w : World) :
    Calls Tryz.prog 90 #[.slice a n cap] w fun e w' => e = .returned (.func (.func 125) #[] #[.pointer (some ⟨w.heap.size, 0, none⟩)]) ∧ w.alloc (.cells #[.slice a n cap] 190) = w' := by
  go_enter Tryz.func90, Tryz.ntmps90
  go_wp2
  go_ret
  exact ⟨rfl, rfl⟩

theorem cmpLays_rule {w : World} {blk cb db size : Nat} (h1 : cb ≠ blk) (h2 : db ≠ blk) (hb : w.cell? ⟨cb, 0, none⟩ = some (.slice (some ⟨db, 0, none⟩) 2 2)) (hd0 : w.cell? ⟨db, 0, none⟩ = some (.func (.func 118) #[] #[])) (hd1 : w.cell? ⟨db, 1, none⟩ = some (.func (.func 120) #[] #[])) :
    CmpLays Tryz.prog 125 #[.pointer (some ⟨cb, 0, none⟩)] askC 6 cmpA blk 0 size w := by
  intro m os dk _ x y
  have l1 := lt_of_cell hb
  have l2 := lt_of_cell hd0
  exact rule_any _ _ x y (Go.Lib.compareInt x.m y.m) (Go.Lib.compareInt x.b y.b) cb db _
    ⟨118, rfl, enters_of Tryz.func118 (by kernel_rfl) rfl, fun W' => byMinute_any x y W'⟩ ⟨120, rfl, enters_of Tryz.func120 (by kernel_rfl) rfl, fun W' => byMember_any x y W'⟩
    ((sortWorldK_other h1 l1).trans hb) ((sortWorldK_other h2 l2).trans hd0) ((sortWorldK_other h2 l2).trans hd1)

/-! ### What comes out -/
theorem perm_of_permIn {d d' : Array Ask} (h : Go.Sort.PermIn 0 d.size d d') : d'.toList.Perm d.toList := by
  have := h.2.2
  have e1 : d.extract 0 d.size = d := by simp
  have e2 : d'.extract 0 d.size = d' := by rw [← h.1]; simp
  rwa [e1, e2] at this

theorem pairwise_of_sorted {lt : Ask → Ask → Bool} {d : Array Ask} (h : Go.Sort.SortedIn lt 0 d.size d) : d.toList.Pairwise fun x y => lt y x = false := by
  rw [List.pairwise_iff_getElem]
  intro i j hi hj hij
  have hi' : i < d.size := by simpa using hi
  have hj' : j < d.size := by simpa using hj
  have := h i j (Nat.zero_le _) hij hj'
  rw [getElem!_pos d i hi', getElem!_pos d j hj'] at this
  simpa using this

/-- What was read so far. -/
def PreOk (w : World) (L : List Req) (pre : List Ask) : Prop := ∀ i, i < pre.length → ReqIs w (pre.getD i default) (L.getD i default) ∧ (pre.getD i default).i = i

theorem PreOk.snoc {w : World} {L : List Req} {pre : List Ask} {x : Ask} (h : PreOk w L pre) (hx : ReqIs w x (L.getD pre.length default)) (hi : x.i = pre.length) : PreOk w L (pre ++ [x]) := by
  intro i hl
  rw [List.length_append, List.length_singleton] at hl
  by_cases e : i < pre.length
  · have hg : (pre ++ [x]).getD i default = pre.getD i default := by simp [List.getD_eq_getElem?_getD, List.getElem?_append_left e]
    rw [hg]
    exact h i e
  · have e' : i = pre.length := by omega
    subst e'
    have hg : (pre ++ [x]).getD pre.length default = x := by simp [List.getD_eq_getElem?_getD]
    rw [hg]
    exact ⟨hx, hi⟩

theorem taken_ok {w : World} {L : List Req} {pre : List Ask} (h : PreOk w L pre) (hl : pre.length = L.length) : TakenOk w L (Go.Sort.insertionSort (ltOf cmpA) pre.toArray 0 pre.toArray.size).toList := by
  have hget : ∀ i, i < pre.length → pre.toArray[i]! = pre.getD i default := fun i hi => by
    rw [List.getD_eq_getElem?_getD]
    simp [hi]
  obtain ⟨hp, hs⟩ := ins_stable cmpA_swo (·.i) pre.toArray (fun i j hij hj => by
    have hj' : j < pre.length := by simpa using hj
    rw [hget i (by omega), hget j hj', (h i (by omega)).2, (h j hj').2]
    exact hij)
  have hperm := perm_of_permIn hp
  have hp' : (Go.Sort.insertionSort (ltOf cmpA) pre.toArray 0 pre.toArray.size).toList.Perm pre := hperm
  have hidx : pre.map (·.i) = List.range L.length := by
    apply List.ext_getElem
    · simp [hl]
    · intro i h1 h2
      have hi : i < pre.length := by simpa using h1
      have := (h i hi).2
      rw [List.getD_eq_getElem?_getD, List.getElem?_eq_getElem hi, Option.getD_some] at this
      simpa using this
  refine ⟨by rw [hp'.length_eq, hl], fun x hx => ?_, ?_, ?_⟩
  · have hm := hp'.mem_iff.1 hx
    obtain ⟨i, hi, rfl⟩ := List.mem_iff_getElem.1 hm
    have := h i hi
    rw [List.getD_eq_getElem?_getD, List.getElem?_eq_getElem hi, Option.getD_some] at this
    rw [this.2]
    exact ⟨by omega, this.1⟩
  · rw [← hidx]
    exact hp'.map _
  · apply pairwise_of_sorted
    rw [hp.1]
    exact hs

end Go.Proofs.YtbampfkmgjfofaaGreatDoor

namespace Go.Proofs.YtbampfkmgjfofaaGreatDoor
open Go.RowKit

theorem Tryz.info162 : (Tryz.prog.info? 162).map (fun i => (i.zero, i.size, i.bytes)) = some (some (.agg #[.int .i64 0, .int .i64 0, .int .i64 0, .int .i64 0, .slice none 0 0, .int .i64 0]), 6, 64) := by kernel_rfl

theorem cells_new (w : World) (vs : Array Value) (t : TypeId) : ∀ j u, vs.toList[j]? = some u → (w.alloc (.cells vs t)).cell? ((⟨w.heap.size, 0, none⟩ : Addr).add j) = some u := by
  intro j u hj
  have hadd : (⟨w.heap.size, 0, none⟩ : Addr).add j = ⟨w.heap.size, 0 + j, none⟩ := by unfold Addr.add; split <;> simp_all
  rw [hadd, Nat.zero_add]
  simpa [go_sem] using hj

/-- What taken returns, with its memory. -/
def TakenPost (L : List Req) (n : Nat) (w0 w : World) (e : Ending) (w' : World) : Prop :=
  ∃ ra rc T, e = .returned (.slice ra n rc) ∧ Below w.heap.size w w' ∧ TakenOk w0 L T ∧ AsksAt w.heap.size w' ra T

set_option maxRecDepth 100000 in
set_option maxHeartbeats 2000000 in
theorem taken_any (L : List Req) (n cap : Nat) (a : Option Addr) (w0 w : World) (hw0 : Below w0.heap.size w0 w) (hL : L.length = n) (hn : n ≤ 20) (hR : ReqsAt w0 a L) :
    Calls Tryz.prog 80 #[.slice a n cap] w (TakenPost L n w0 w) := by
  have HL := hid hL
  clear hL
  obtain ⟨i0, hi, hz0, hz1, hz2⟩ := info_parts Tryz.info162
  go_enter Tryz.func80, Tryz.ntmps80
  go_wp2_with fail
  go_loopw [3, 10] (fun v i wr => ∃ (k : Nat) (pre : List Ask), k ≤ n ∧ i = .int .i64 k ∧ Hid (PreOk w0 L pre) ∧ Hid (pre.length = k) ∧ wr.ownsRow w.heap.size 162 6 v k (flatV askC pre) ∧ Below w.heap.size w wr) (fun _ i _ => n - (intOf i).toNat)
  case atStart => exact ⟨0, [], Nat.zero_le _, rfl, hid (fun i h => by simp at h), rfl, World.ownsRow_nil _ _ _ _, Below.refl _ _⟩
  case round =>
    obtain ⟨k, pre, hk, rfl, HP, HK, hown, hB⟩ := hrel
    have hz := hB.size
    by_cases hlt : k < n
    · obtain ⟨ab, off, pa, pc, rfl, e0, e1, e2, e3, e4, e5, e6⟩ := hR k (by rw [HL.out]; exact hlt)
      replace e0 := cell_grown hB (cell_grown hw0 e0)
      replace e1 := cell_grown hB (cell_grown hw0 e1)
      replace e2 := cell_grown hB (cell_grown hw0 e2)
      replace e3 := cell_grown hB (cell_grown hw0 e3)
      replace e4 := cell_grown hB (cell_grown hw0 e4)
      have gb := lt_of_cell e0
      obtain ⟨q, hq⟩ : ∃ q, L.getD k default = q := ⟨_, rfl⟩
      rw [hq] at e0 e1 e2 e3 e4 e5 e6
      have HQ := hid hq
      clear hq
      obtain ⟨pn, hpn⟩ : ∃ pn, q.put.length = pn := ⟨_, rfl⟩
      rw [hpn] at e4 e5
      have HPN := hid hpn
      clear hpn
      have h6 : Hid (Strs w0 pa q.put) := e6
      clear e6
      have hnew : ∀ j u, [(.int .i64 q.b : Value), .int .i64 q.m, .int .i64 q.f, .int .i64 q.c, .slice pa pn pc, .int .i64 (k : Int)][j]? = some u → ((wr.alloc (.cells #[.int .i64 q.b, .int .i64 q.m, .int .i64 q.f, .int .i64 q.c, .slice pa pn pc] 87)).alloc (.cells #[.int .i64 q.b, .int .i64 q.m, .int .i64 q.f, .int .i64 q.c, .slice pa pn pc, .int .i64 (k : Int)] 162)).cell? ((⟨wr.heap.size + 1, 0, none⟩ : Addr).add j) = some u := by
        have := cells_new (wr.alloc (.cells #[.int .i64 q.b, .int .i64 q.m, .int .i64 q.f, .int .i64 q.c, .slice pa pn pc] 87)) #[.int .i64 q.b, .int .i64 q.m, .int .i64 q.f, .int .i64 q.c, .slice pa pn pc, .int .i64 (k : Int)] 162
        rwa [World.size_alloc] at this
      have HN := hid hnew
      clear hnew
      go_wp2_with (at_builtin; refine wpList_append_own _ rfl _ _ 128 rfl w.heap.size 162 i0 (.agg #[.int .i64 0, .int .i64 0, .int .i64 0, .int .i64 0, .slice none 0 0, .int .i64 0]) 6 64 Tryz.underlying128 hi hz0 hz1 hz2 rfl (by decide) _ _ _ rfl ((hown.alloc _).alloc _) ⟨wr.heap.size + 1, 0, none⟩ 1 1 [.int .i64 q.b, .int .i64 q.m, .int .i64 q.f, .int .i64 q.c, .slice pa pn pc, .int .i64 (k : Int)] rfl rfl HN.out (fun x hx => by simp at hx; rcases hx with rfl | rfl | rfl | rfl | rfl | rfl <;> rfl) (by unfold maxLen; omega) (by omega) (by simp; omega) ?_; intro v' w5 hown' hgrow5 hnil5; have hb5 := below_of_grown (hB.alloc hz _) (hown.alloc _) hgrow5 (by simp; omega))
      go_roundw
      case rel => exact ⟨k + 1, pre ++ [⟨q.b, q.m, q.f, q.c, pa, pn, pc, k⟩], by omega, by go_num,
        hid (HP.out.snoc (by rw [HK.out, HQ.out]; exact ⟨rfl, rfl, rfl, rfl, HPN.out.symm, by rw [HPN.out]; exact e5, h6.out⟩) HK.out.symm), hid (by rw [List.length_append, HK.out]; rfl), by rw [flatV_snoc]; exact hown', hb5⟩
      case measure => simp [intOf]; omega
    · have hkn : k = n := by omega
      subst hkn
      have HK2 : Hid (pre.length = k) := HK
      clear HK hlt hk
      have hok := taken_ok HP.out (by rw [HK2.out, HL.out])
      obtain ⟨W3, hW3⟩ : ∃ W, W = (wr.alloc (.cells #[.func (.func 118) #[] #[], .func (.func 120) #[] #[]] 163)).alloc (.cells #[.slice (some ⟨wr.heap.size, 0, none⟩) 2 2] 190) := ⟨_, rfl⟩
      have hB3 : Below w.heap.size w W3 := by rw [hW3]; exact (hB.alloc hz _).alloc (by simp; omega) _
      have hown3 := (hown.alloc (.cells #[.func (.func 118) #[] #[], .func (.func 120) #[] #[]] 163)).alloc (.cells #[.slice (some ⟨wr.heap.size, 0, none⟩) 2 2] 190)
      rw [← hW3] at hown3
      have hlo := hown.lt
      have cb : W3.cell? ⟨wr.heap.size + 1, 0, none⟩ = some (.slice (some ⟨wr.heap.size, 0, none⟩) 2 2) := by rw [hW3]; simp [go_sem]
      have cd0 : W3.cell? ⟨wr.heap.size, 0, none⟩ = some (.func (.func 118) #[] #[]) := by rw [hW3]; simp [go_sem]
      have cd1 : W3.cell? ⟨wr.heap.size, 1, none⟩ = some (.func (.func 120) #[] #[]) := by rw [hW3]; simp [go_sem]
      obtain ⟨ra, rc, rfl⟩ := owns_shape hown
      have HO := hid hown3
      have HLO := hid hlo
      have HOK := hid hok
      clear hown hown3 hlo hok
      by_cases hn0 : k = 0
      · have e := HK2.out
        have hp0 : pre = [] := List.eq_nil_of_length_eq_zero (by omega)
        have hcon : Calls Tryz.prog 121 #[.slice ra k rc, .func (.func 125) #[] #[.pointer (some ⟨wr.heap.size + 1, 0, none⟩)]] W3 fun e w' => e = .returned (.tuple #[]) ∧ w' = W3 := by
          have h := sortNone_any (.func (.func 125) #[] #[.pointer (some ⟨wr.heap.size + 1, 0, none⟩)]) ra rc W3
          rw [hn0]
          exact h
        have HN0 := hid hn0
        clear hp0 e hn0
        go_wp2_with fail
        refine (ruleF_any _ _ _ _).mono ?_
        rintro e w' ⟨rfl, rfl⟩
        go_wp2_with fail
        rw [← hW3]
        refine hcon.mono ?_
        rintro e w' ⟨rfl, rfl⟩
        go_wp2
        go_ret
        have h := HOK.out
        have h0 := List.eq_nil_of_length_eq_zero (h.1.trans (HL.out.trans HN0.out))
        rw [h0] at h
        rw [hW3] at hB3
        exact ⟨ra, rc, [], rfl, hB3, h, fun i hi => by simp at hi⟩
      · have hpos : 0 < k := by omega
        obtain ⟨g, hg0, rfl, -⟩ := owns_cells HO.out hpos
        have hgl := (HLO.out g rfl).2
        have hgW : g < W3.heap.size := by have := (HO.out.lt g rfl).2; exact this
        have hH := holdsK_of_owns HO.out HK2.out
        have hds : pre.toArray.size = k := by rw [List.size_toArray]; exact HK2.out
        have hcon := sortStable_any pre.toArray 125 #[.pointer (some ⟨wr.heap.size + 1, 0, none⟩)] g rc k W3 hds hn (enters_of Tryz.func125 (by kernel_rfl) rfl)
          (cmpLays_rule (by omega) (by omega) cb cd0 cd1) hH hgW
        obtain ⟨S, hS⟩ : ∃ S, S = SortPost g pre.toArray W3 := ⟨_, rfl⟩
        rw [← hS] at hcon
        have HS := hid hS
        clear hS
        have HE : Hid (∀ e w', S e w' → e = .returned (.tuple #[])) := hid (by rw [HS.out]; exact fun e w' h => h.1)
        have HH := hid hH
        have HD := hid hds
        clear hH hds cb cd0 cd1
        go_wp2_with fail
        refine (ruleF_any _ _ _ _).mono ?_
        rintro e w' ⟨rfl, rfl⟩
        go_wp2_with fail
        rw [← hW3]
        refine hcon.mono ?_
        intro e w' hp
        obtain rfl := HE.out _ _ hp
        go_wp2
        go_ret
        rw [HS.out] at hp
        obtain ⟨-, m, os, rfl⟩ := hp
        have hrs : (Go.Sort.insertionSort (ltOf cmpA) pre.toArray 0 pre.toArray.size).size = pre.toArray.size := by
          have := HOK.out.1
          rw [Array.length_toList] at this
          rw [this, HL.out, HD.out]
        exact ⟨some ⟨g, 0, none⟩, rc, _, rfl, sortWorldK_below hB3 hg0 hgW, HOK.out, asks_of_holdsK (holdsK_sortWorldK_c askC 6 W3 g 0 pre.toArray _ m os HH.out hgW hrs) hg0⟩

end Go.Proofs.YtbampfkmgjfofaaGreatDoor

namespace Go.Proofs.YtbampfkmgjfofaaGreatDoor
open Go.RowKit

/-- A number of the machine. -/
def I64 (z : Int) : Prop := -9223372036854775808 ≤ z ∧ z ≤ 9223372036854775807

/-- The block of a request that a call is handed. -/
def askO (x : Ask) : Obj := .cells #[.int .i64 x.b, .int .i64 x.m, .int .i64 x.f, .int .i64 x.c, .slice x.pa x.pn x.pc, .int .i64 (x.i : Int)] 162

/-- A request, alone in its block. -/
structure AskAt (w : World) (k : Nat) (x : Ask) : Prop where
  c0 : w.cell? ⟨k, 0, none⟩ = some (.int .i64 x.b)
  c1 : w.cell? ⟨k, 1, none⟩ = some (.int .i64 x.m)
  c2 : w.cell? ⟨k, 2, none⟩ = some (.int .i64 x.f)
  c3 : w.cell? ⟨k, 3, none⟩ = some (.int .i64 x.c)
  c4 : w.cell? ⟨k, 4, none⟩ = some (.slice x.pa x.pn x.pc)
  c5 : w.cell? ⟨k, 5, none⟩ = some (.int .i64 (x.i : Int))

theorem AskAt.lt {w : World} {k : Nat} {x : Ask} (h : AskAt w k x) : k < w.heap.size := lt_of_cell h.c0
theorem AskAt.below {B : Nat} {w w' : World} {k : Nat} {x : Ask} (h : AskAt w k x) (hb : Below B w w') (hk : k < B) : AskAt w' k x :=
  ⟨cell_below hb hk h.c0, cell_below hb hk h.c1, cell_below hb hk h.c2, cell_below hb hk h.c3, cell_below hb hk h.c4, cell_below hb hk h.c5⟩
theorem AskAt.grown {w w' : World} {k : Nat} {x : Ask} (h : AskAt w k x) (hb : Below w.heap.size w w') : AskAt w' k x := h.below hb h.lt
theorem AskAt.new (w : World) (x : Ask) : AskAt (w.alloc (askO x)) w.heap.size x := by
  unfold askO
  exact ⟨by simp [go_sem], by simp [go_sem], by simp [go_sem], by simp [go_sem], by simp [go_sem], by simp [go_sem]⟩

set_option maxHeartbeats 400000 in
theorem end_any (x : Ask) (w : World) (h : I64 (x.f + x.c)) :
    Calls Tryz.prog 91 #[askV x] w fun e w' => e = .returned (.int .i64 (x.f + x.c)) ∧ Below w.heap.size w w' := by
  have hB := below_alloc w (askO x)
  have hwr : IntKind.i64.wrap (x.f + x.c) = x.f + x.c := by rw [IntKind.wrap_i64]; unfold I64 at h; omega
  unfold askV
  unfold askO at hB
  go_enter Tryz.func91, Tryz.ntmps91
  go_wp2
  go_ret
  exact ⟨by first | rfl | rw [hwr], hB⟩

theorem below_drewN {B : Nat} {w W : World} (h : Below B w W) (q : Nat) : Below B w (W.drewN q) := ⟨h.os, h.tape, h.output, h.size, h.block⟩

/-- Are there no such words? -/
def missesM (n : Nat) (x : Ask) : Bool := decide (x.c < 0) || !inB x.f 0 (n - x.c)

set_option maxHeartbeats 1000000 in
theorem misses_any (hb : Nat) (wa : Option Addr) (wn wc : Nat) (x : Ask) (w : World) (h0 : w.cell? ⟨hb, 0, none⟩ = some (.slice wa wn wc)) (hw : wn ≤ 80) (hc : I64 x.c) :
    Calls Tryz.prog 112 #[.pointer (some ⟨hb, 0, none⟩), askV x] w fun e w' => e = .returned (.bool (missesM wn x)) ∧ Below w.heap.size w w' := by
  obtain ⟨z, hz⟩ : ∃ z, missesM wn x = z := ⟨_, rfl⟩
  rw [hz]
  have HZ := hid hz
  clear hz
  have hB := below_alloc w (askO x)
  have hA := AskAt.new w x
  have g0 := cell_grown hB h0
  unfold askO at hB hA g0
  have l0 := lt_of_cell g0
  unfold askV
  go_enter Tryz.func112, Tryz.ntmps112
  by_cases h1 : x.c < 0
  · have hzt : z = true := by rw [← HZ.out, missesM]; simp [h1]
    have h1' : decide (x.c < 0) = true := by simpa using h1
    go_wp2_with fail
    go_quiet (fail)
    go_wp2
    go_ret
    exact ⟨by rw [hzt]; rfl, below_drewN hB _⟩
  · have hzt : z = !inB x.f 0 ((wn : Int) - x.c) := by rw [← HZ.out, missesM]; simp [h1]
    have h1' : decide (x.c < 0) = false := by simpa using h1
    have hwr : IntKind.i64.wrap ((wn : Int) - x.c) = (wn : Int) - x.c := by rw [IntKind.wrap_i64]; unfold I64 at hc; omega
    have HZT := hid hzt
    clear hzt
    go_wp2_with fail
    go_quiet ((go_at_call 78; exact Calls.quiet_of_same ((within_any _ _ _ _).mono fun e w' h => ⟨h.1, h.2.symm⟩)))
    go_wp2
    go_ret
    exact ⟨by rw [HZT.out]; rfl, below_drewN hB _⟩

/-- Comes it too early, or too late? -/
def lateM (out win : Int) (x : Ask) : Bool := !inB x.m out (out + win)

set_option maxHeartbeats 1000000 in
theorem late_any (hb : Nat) (out win : Int) (x : Ask) (w : World) (h1 : w.cell? ⟨hb, 1, none⟩ = some (.int .i64 out)) (h2 : w.cell? ⟨hb, 2, none⟩ = some (.int .i64 win)) (hc : I64 (out + win)) :
    Calls Tryz.prog 115 #[.pointer (some ⟨hb, 0, none⟩), askV x] w fun e w' => e = .returned (.bool (lateM out win x)) ∧ Below w.heap.size w w' := by
  obtain ⟨z, hz⟩ : ∃ z, lateM out win x = z := ⟨_, rfl⟩
  rw [hz]
  have HZ := hid hz
  clear hz
  have hB := below_alloc w (askO x)
  have g1 := cell_grown hB h1
  have g2 := cell_grown hB h2
  unfold askO at hB g1 g2
  have l1 := lt_of_cell g1
  have hwr : IntKind.i64.wrap (out + win) = out + win := by rw [IntKind.wrap_i64]; unfold I64 at hc; omega
  unfold askV
  go_enter Tryz.func115, Tryz.ntmps115
  go_wp2_with fail
  go_quiet ((go_at_call 78; exact Calls.quiet_of_same ((within_any _ _ _ _).mono fun e w' h => ⟨h.1, h.2.symm⟩)))
  go_wp2
  go_ret
  exact ⟨by rw [← HZ.out]; rfl, below_drewN hB _⟩

/-- Can no such request be made? -/
def malformedM (P : List Tx) (x : Ask) : Bool := decide (8 < x.c ∨ 8 < P.length) || (!P.all textOk || ((decide (x.c = 0) && decide (P.length = 0)) || !memberOk x.b))

set_option maxHeartbeats 2000000 in
theorem malformed_any (hb : Nat) (P : List Tx) (x : Ask) (w : World) (hp : x.pn = P.length) (hm : P.length ≤ maxLen) (hS : Strs w x.pa P) :
    Calls Tryz.prog 113 #[.pointer (some ⟨hb, 0, none⟩), askV x] w fun e w' => e = .returned (.bool (malformedM P x)) ∧ Below w.heap.size w w' := by
  obtain ⟨z, hz⟩ : ∃ z, malformedM P x = z := ⟨_, rfl⟩
  rw [hz]
  have HZ := hid hz
  clear hz
  have hB := below_alloc w (askO x)
  have hS1 := hS.grown hB
  have hA := AskAt.new w x
  obtain ⟨W1, hW1⟩ : ∃ W, W = w.alloc (askO x) := ⟨_, rfl⟩
  rw [← hW1] at hB hA hS1
  have hcall := allTexts_any P x.pn x.pc x.pa W1 hp.symm (by rw [hp]; exact hm) hS1
  have HP := hid hp
  unfold askO at hW1
  clear hp hS hS1
  unfold maxLen at hm
  unfold askV
  go_enter Tryz.func113, Tryz.ntmps113
  by_cases h1 : 8 < x.c ∨ 8 < P.length
  · have hzt : z = true := by rw [← HZ.out, malformedM]; simp [h1]
    clear HZ
    have h8 : (8 : Int) < max x.c (x.pn : Int) := by rw [HP.out]; omega
    clear h1
    go_wp2_with fail
    go_ret
    exact ⟨by rw [hzt]; rfl, by rw [← hW1]; exact hB⟩
  · have hzt : z = (!P.all textOk || ((decide (x.c = 0) && decide (P.length = 0)) || !memberOk x.b)) := by rw [← HZ.out, malformedM]; simp [h1]
    have h8 : ¬ (8 : Int) < max x.c (x.pn : Int) := by rw [HP.out]; omega
    have HZ2 := hid hzt
    clear h1 hzt HZ
    go_wp2_with fail
    rw [← hW1]
    clear hW1
    refine hcall.mono ?_
    rintro e w2 ⟨rfl, hb2⟩
    have hB2 := below_then hB hb2
    have hA2 := hA.grown hb2
    have c0 := hA2.c0
    have c3 := hA2.c3
    have c4 := hA2.c4
    have lw := hA2.lt
    cases hx : P.all textOk
    · have hzt : z = true := by rw [HZ2.out, hx]; rfl
      clear hx
      go_wp2
      go_ret
      exact ⟨by rw [hzt]; rfl, hB2⟩
    · have HZ3 : Hid (z = ((decide (x.c = 0) && decide (P.length = 0)) || !memberOk x.b)) := hid (by rw [HZ2.out, hx]; rfl)
      clear hx HZ2 hA hA2
      by_cases h2 : x.c = 0
      · by_cases h3 : P.length = 0
        · have hzt : z = true := by rw [HZ3.out]; simp [h2, h3]
          have h4 : (x.pn : Int) = 0 := by rw [HP.out, h3]; rfl
          have k2 : (x.c == 0) = true := by simpa using h2
          have k4 : ((x.pn : Int) == 0) = true := by simpa using h4
          clear h2 h3 h4
          go_wp2
          go_ret
          exact ⟨by rw [hzt]; rfl, hB2⟩
        · have hzt : z = !memberOk x.b := by rw [HZ3.out]; simp [h3]
          have h4 : ¬ (x.pn : Int) = 0 := by rw [HP.out]; omega
          have k2 : (x.c == 0) = true := by simpa using h2
          have k4 : ((x.pn : Int) == 0) = false := by simpa using h4
          clear h2 h3 h4
          go_wp2_with (go_at_call 111; refine (validMember_any _ _).mono ?_; rintro e w' ⟨rfl, rfl⟩)
          go_ret
          exact ⟨by rw [hzt]; rfl, hB2⟩
      · have hzt : z = !memberOk x.b := by rw [HZ3.out]; simp [h2]
        have k2 : (x.c == 0) = false := by simpa using h2
        clear h2
        go_wp2_with (go_at_call 111; refine (validMember_any _ _).mono ?_; rintro e w' ⟨rfl, rfl⟩)
        go_ret
        exact ⟨by rw [hzt]; rfl, hB2⟩

end Go.Proofs.YtbampfkmgjfofaaGreatDoor
