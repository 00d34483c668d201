/- Mend: the closure that keeps, and the segments of a hearing. -/
import Derived.Test.YtbampfkmgjfofaaGreatDoorDB
import Derived.Test.YtbampfkmgjfofaaGreatDoorDC
import Derived.Deep.RegionHeld3
import Derived.IntWalk
namespace Go.Proofs.YtbampfkmgjfofaaGreatDoor
open Go.RowKit

theorem values_any (a : Option Addr) (m cap : Nat) (w : World) :
    Calls Tryz.prog 89 #[.slice a m cap] w fun e w' => e = .returned (.func (.func 124) #[] #[.pointer (some ⟨w.heap.size, 0, none⟩)]) ∧ w.alloc (.cells #[.slice a m cap] 128) = w' :=
  callsIn_wide.1 (values_in (F := Fence.wide) (n := 9) (fun _ => trivial) rfl a m cap w)

def KeepPost (Wp : World) (b3 b4 : Nat) (R : List (Tx × Int)) (L : List Seg) (nx en : Nat) (v : Value) (W : World) (e : Ending) (W' : World) : Prop :=
  e = .returned (.tuple #[]) ∧ ∃ v', SegSt Wp b3 b4 (L ++ keepS R nx en) (if nx < en then en else nx) v' W' ∧ Stays b3 b4 v v' W W'

set_option maxRecDepth 100000 in
set_option maxHeartbeats 4000000 in
theorem keep_any (Wp : World) (b1 b3 b4 b5 hb : Nat) (wa : Option Addr) (wn wc : Nat) (R : List (Tx × Int)) (E : SegEnv Wp b1 b3 b4 hb wa wn wc R) (n5 : b5 ≠ b3 ∧ b5 ≠ b4) (c5 : Wp.cell? ⟨b5, 0, none⟩ = some (.func (.func 83) #[] #[.pointer (some ⟨b3, 0, none⟩), .pointer (some ⟨b1, 0, none⟩), .pointer (some ⟨b4, 0, none⟩)]))
    (L : List Seg) (nx en : Nat) (v : Value) (W : World) (hst : SegSt Wp b3 b4 L nx v W) (hen : en ≤ wn) (hL : L.length ≤ 1000) :
    Calls Tryz.prog 85 #[.int .i64 (en : Int), .pointer (some ⟨b4, 0, none⟩), .pointer (some ⟨b5, 0, none⟩), .pointer (some ⟨b1, 0, none⟩)] W (KeepPost Wp b3 b4 R L nx en v W) := by
  have y1 : W.cell? ⟨b1, 0, none⟩ = some (.pointer (some ⟨hb, 0, none⟩)) := hst.but.cell E.n1.1 E.n1.2 E.ptr
  have y2 : W.cell? ⟨b4, 0, none⟩ = some (.int .i64 (nx : Int)) := hst.nxt.cell
  have y3 : W.cell? ⟨hb, 0, none⟩ = some (.slice wa wn wc) := hst.but.cell E.nh.1 E.nh.2 E.words
  have y5 : W.cell? ⟨b5, 0, none⟩ = some (.func (.func 83) #[] #[.pointer (some ⟨b3, 0, none⟩), .pointer (some ⟨b1, 0, none⟩), .pointer (some ⟨b4, 0, none⟩)]) := hst.but.cell n5.1 n5.2 c5
  have g1 := lt_of_cell y1
  have g2 := lt_of_cell y2
  have g5 := lt_of_cell y5
  by_cases hlt : nx < en
  · obtain ⟨k, hk⟩ : ∃ k, en = nx + k := ⟨en - nx, by omega⟩
    subst hk
    have e1 : ((nx + k : Nat) : Int) = (nx : Int) + (k : Int) := by omega
    rw [e1]
    clear e1
    have hlt' : (nx : Int) < (nx : Int) + (k : Int) := by omega
    have kb : (nx : Int) + (k : Int) ≤ 80 := by have := E.few; omega
    have k0 : (0 : Int) ≤ (nx : Int) := by omega
    have hBd : Below W.heap.size W W.drew := (Below.refl _ _).drew
    have hks : keepS R nx (nx + k) = [(textsM R nx k, textsM R nx k, -1)] := by
      unfold keepS
      rw [if_pos hlt, show nx + k - nx = k by omega]
    have HKS := hid hks
    have HST := hid hst
    have HE := hid E
    have HLT := hid hlt
    clear hst E n5 c5 hks hlt
    go_enter Tryz.func85, Tryz.ntmps85
    go_wp2_with fail
    go_region_law
      (first
        | (rw [if_pos (by simp [Region.wanted])]
           unfold Oper.wp
           go_simp
           go_at_call 84
           refine (texts_any hb wa wn wc R nx k _ (cell_grown hBd y3) HE.out.len HE.out.few HE.out.room ((HE.out.nums _ HST.out.but).grown hBd) hen).mono ?_
           rintro e w4 ⟨ta, tc, rfl, hO4, hb4⟩
           have hb14 := below_then hBd hb4
           have hz4 := hb14.size
           replace y5 := cell_grown hb14 y5
           replace y1 := cell_grown hb14 y1
           replace y2 := cell_grown hb14 y2
           have hadd := add_any Wp b1 b3 b4 hb wa wn wc R HE.out L nx k v ta k tc (textsM R nx k) (-1) w4 (HST.out.grown hb14) hen hL (textsM_length HE.out.len hen) (strs_of_ownsN hO4 (textsM_length HE.out.len hen)) (fun bb o x e => by
             have h1 := hO4.lt bb (by rw [e]; rfl)
             have h2 : W.heap.size ≤ bb := h1.1
             have h3 := HST.out.but.size
             refine ⟨by omega, h1.2, fun h4 => ?_⟩
             obtain ⟨xs, ho, -⟩ := HST.out.own
             have h5 := (ho.lt bb h4).2
             omega))
        | (rw [if_pos (by simp [Region.wanted])]
           unfold Oper.wp
           go_simp
           go_at_call 83
           refine hadd.mono ?_
           rintro e w5 ⟨rfl, v', hst5, hsy5⟩
           have HSY := hid hsy5
           clear hsy5
           have HST5 := hid hst5
           clear hst5))
    all_goals
      go_wp2
      refine bodyPost_end (results_none rfl _ _ _) rfl ?_
      exact ⟨rfl, v', by rw [HKS.out, if_pos HLT.out]; exact HST5.out, ⟨by have := HSY.out.size; omega, fun j h1 h2 h3 h4 => (HSY.out.same j (by omega) h2 h3 h4).trans (hb14.block j h1), fun j h1 => (HSY.out.own j h1).imp id (fun h => by omega)⟩⟩
  · have hlt' : ¬ (nx : Int) < (en : Int) := by omega
    have hks : keepS R nx en = [] := by
      unfold keepS
      rw [if_neg hlt]
    have HKS := hid hks
    have HST := hid hst
    have HLT := hid hlt
    clear hst E n5 c5 hks hlt
    go_enter Tryz.func85, Tryz.ntmps85
    go_wp2
    refine bodyPost_end (results_none rfl _ _ _) rfl ?_
    exact ⟨rfl, v, by rw [HKS.out, List.append_nil, if_neg HLT.out]; exact HST.out, ⟨Nat.le_refl _, fun _ _ _ _ _ => rfl, fun _ h => .inl h⟩⟩

end Go.Proofs.YtbampfkmgjfofaaGreatDoor
