/- What holds of memory while a rota is looked for. -/
import Derived.Test.YtgapbaelifcifaaAA
import Derived.Test.YtgapbaelifcifaaAD
import Derived.Test.YtgapbaelifcifaaV
namespace Go.Proofs.Ytgapbaelifcifaa
open Go.RowKit

def giveV (B : Nat) : Value := .func (.func 74) #[] #[.pointer (some ⟨B + 3, 0, none⟩), .pointer (some ⟨B, 0, none⟩), .pointer (some ⟨B + 5, 0, none⟩), .pointer (some ⟨B + 1, 0, none⟩), .pointer (some ⟨B + 2, 0, none⟩), .pointer (some ⟨B + 6, 0, none⟩)]

def natVs (R : List Nat) : List Value := R.map fun r : Nat => .int .i64 (r : Int)

structure GI (B : Nat) (w0 : World) (s : Sv) (p : How) (mv : Value) (w : World) (R : List Nat) (rc : Nat) : Prop where
  below : Below B w0 w
  sz : B + 7 ≤ w.heap.size
  v : w.heap[B]? = some (.cells #[.int .i64 s.len, .slice s.pa s.pn s.pc, .int .i64 s.long, .int .i64 s.short, .slice s.ca s.cn s.cc, .int .i64 s.due, .int .i64 s.delay, .slice s.ta s.tn s.tc] 106 (0, 0))
  ma : Boxed w (B + 1) 117 mv
  li : ∃ lv, Boxed w (B + 2) 53 lv ∧ w.ownsRow (B + 7) 3 1 lv R.length (natVs R)
  re : Boxed w (B + 3) 3 (.int .i64 (rc : Int))
  tr : Boxed w (B + 5) 127 (.map (some (B + 4)))
  tried : Tried w (B + 4) (p.dead rc)
  gi : Boxed w (B + 6) 128 (giveV B)
  rcle : rc ≤ p.tn
  wit : ∃ rs, rs.length = rc ∧ p.path rs 0 [0, 0, 0, 0, 0]

variable {B : Nat} {w0 : World} {s : Sv} {p : How} {mv : Value} {w w' : World} {R : List Nat} {rc : Nat}

theorem below_grownBy (hb : Below w.heap.size w w') : w.grownBy w' none := ⟨hb.os, hb.tape, hb.output, hb.size, fun k hk _ => hb.block k hk⟩

theorem Tried.kept {b : Nat} {Dead : Nat → List Nat → Prop} (h : Tried w b Dead) (hb : w'.heap[b]? = w.heap[b]?) : Tried w' b Dead := by
  obtain ⟨es, clock, e, he⟩ := h
  exact ⟨es, clock, hb.trans e, he⟩

theorem Tried.mono {b : Nat} {Dead Dead' : Nat → List Nat → Prop} (h : Tried w b Dead) (hd : ∀ t H, Dead t H → Dead' t H) : Tried w b Dead' := by
  obtain ⟨es, clock, e, he⟩ := h
  refine ⟨es, clock, e, fun x hx => ?_⟩
  obtain ⟨t, h0, h1, h2, h3, h4, b, hk, hv, hdd⟩ := he x hx
  exact ⟨t, h0, h1, h2, h3, h4, b, hk, hv, hd _ _ hdd⟩

theorem GI.step (h : GI B w0 s p mv w R rc) (hb : Below w.heap.size w w') : GI B w0 s p mv w' R rc := by
  have hs := h.sz
  obtain ⟨lv, hl, hr⟩ := h.li
  exact { below := h.below.trans (hb.mono (by omega)), sz := Nat.le_trans hs hb.size, v := (hb.block _ (by omega)).trans h.v, ma := (hb.block _ (by omega)).trans h.ma, li := ⟨lv, (hb.block _ (by omega)).trans hl, hr.kept (below_grownBy hb) (by cases lv.ownBlock <;> simp)⟩, re := (hb.block _ (by omega)).trans h.re, tr := (hb.block _ (by omega)).trans h.tr, tried := h.tried.kept (hb.block _ (by omega)), gi := (hb.block _ (by omega)).trans h.gi, rcle := h.rcle, wit := h.wit }

theorem GI.alloc (h : GI B w0 s p mv w R rc) (o : Obj) : GI B w0 s p mv (w.alloc o) R rc := h.step ((Below.refl _ _).alloc (Nat.le_refl _) _)

theorem GI.reach (h : GI B w0 s p mv w R rc) {rc' : Nat} (hle : rc ≤ rc') (hk : rc' ≤ p.tn) (hw : ∃ rs, rs.length = rc' ∧ p.path rs 0 [0, 0, 0, 0, 0]) :
    GI B w0 s p mv (w.setCell ⟨B + 3, 0, none⟩ (.int .i64 (rc' : Int))) R rc' := by
  have hs := h.sz
  obtain ⟨lv, hl, hr⟩ := h.li
  have ho : ∀ k, k ≠ B + 3 → (w.setCell ⟨B + 3, 0, none⟩ (.int .i64 (rc' : Int))).heap[k]? = w.heap[k]? := fun k hk => Below.heap_setCell _ _ _ _ hk
  refine { below := h.below.setCell (p := ⟨B + 3, 0, none⟩) (by simp) _, sz := ?_, v := (ho _ (by omega)).trans h.v, ma := (ho _ (by omega)).trans h.ma, li := ⟨lv, (ho _ (by omega)).trans hl, ?_⟩, re := h.re.set _, tr := (ho _ (by omega)).trans h.tr, tried := (h.tried.mono fun t H hd => How.dead_mono hd hle).kept (ho _ (by omega)), gi := (ho _ (by omega)).trans h.gi, rcle := hk, wit := hw }
  · have := (Below.refl 0 w).setCell (p := ⟨B + 3, 0, none⟩) (Nat.zero_le _) (.int .i64 (rc' : Int)) |>.size
    omega
  · refine hr.kept (grownBy_setCell' w (B + 3) _) ?_
    cases e : lv.ownBlock with
    | none => exact .inl rfl
    | some g => exact .inr (by have := (hr.lt g e).1; simp; omega)

theorem GI.push (h : GI B w0 s p mv w R rc) {lv v' : Value} {w1 : World} {tmp : Obj} {r : Nat} (hl : Boxed w (B + 2) 53 lv) (hr : w.ownsRow (B + 7) 3 1 lv R.length (natVs R))
    (hown' : w1.ownsRow (B + 7) 3 1 v' (R.length + 1) (natVs R ++ [.int .i64 (r : Int)])) (hgrow : (w.alloc tmp).grownBy w1 lv.ownBlock) :
    GI B w0 s p mv (w1.setCell ⟨B + 2, 0, none⟩ v') (R ++ [r]) rc := by
  have hs := h.sz
  have hne : ∀ k, k < B + 7 → some k ≠ lv.ownBlock := fun k hk e => by have := (hr.lt k e.symm).1; omega
  have hne' : ∀ k, v'.ownBlock = some k → k ≠ B + 2 := fun k e => by have := (hown'.lt k e).1; omega
  have ho : ∀ k, k < B + 7 → k ≠ B + 2 → (w1.setCell ⟨B + 2, 0, none⟩ v').heap[k]? = w.heap[k]? := fun k hk hk' => by
    rw [Below.heap_setCell _ _ _ _ hk', hgrow.block k (by simp; omega) (hne k hk), Below.heap_alloc _ _ _ (by omega)]
  have hb1 : Boxed w1 (B + 2) 53 lv := (hl.alloc tmp).kept hgrow (hne _ (by omega))
  refine { below := ?_, sz := ?_, v := (ho _ (by omega) (by omega)).trans h.v, ma := (ho _ (by omega) (by omega)).trans h.ma, li := ⟨v', hb1.set v', ?_⟩, re := (ho _ (by omega) (by omega)).trans h.re, tr := (ho _ (by omega) (by omega)).trans h.tr, tried := h.tried.kept (ho _ (by omega) (by omega)), gi := (ho _ (by omega) (by omega)).trans h.gi, rcle := h.rcle, wit := h.wit }
  · refine ((h.below.alloc (by omega) tmp).grown hgrow (by simp; omega) fun k e => ?_).setCell (p := ⟨B + 2, 0, none⟩) (by simp) v'
    have := (hr.lt k e).1
    omega
  · have e1 := hgrow.size
    have e2 := (Below.refl 0 w1).setCell (p := ⟨B + 2, 0, none⟩) (Nat.zero_le _) v' |>.size
    simp at e1
    omega
  · have e : natVs (R ++ [r]) = natVs R ++ [.int .i64 (r : Int)] := by simp [natVs]
    rw [e, List.length_append]
    refine hown'.kept (grownBy_setCell' w1 (B + 2) v') ?_
    cases e : v'.ownBlock with
    | none => exact .inl rfl
    | some g => exact .inr (by have := hne' g e; simpa using this)

theorem GI.pop {g cap r : Nat} (h : GI B w0 s p mv w (R ++ [r]) rc) (hr : w.ownsRow (B + 7) 3 1 (.slice (some ⟨g, 0, none⟩) (R.length + 1) cap) (R.length + 1) (natVs (R ++ [r]))) (hl : Boxed w (B + 2) 53 (.slice (some ⟨g, 0, none⟩) (R.length + 1) cap)) :
    GI B w0 s p mv (w.setCell ⟨B + 2, 0, none⟩ (.slice (some ⟨g, 0, none⟩) R.length cap)) R rc := by
  have hs := h.sz
  have e : natVs (R ++ [r]) = natVs R ++ [.int .i64 (r : Int)] := by simp [natVs]
  rw [e] at hr
  have hg := (hr.lt g rfl).1
  have ho : ∀ k, k ≠ B + 2 → (w.setCell ⟨B + 2, 0, none⟩ (.slice (some ⟨g, 0, none⟩) R.length cap)).heap[k]? = w.heap[k]? := fun k hk => Below.heap_setCell _ _ _ _ hk
  refine { below := h.below.setCell (p := ⟨B + 2, 0, none⟩) (by simp) _, sz := ?_, v := (ho _ (by omega)).trans h.v, ma := (ho _ (by omega)).trans h.ma, li := ⟨_, hl.set _, ?_⟩, re := (ho _ (by omega)).trans h.re, tr := (ho _ (by omega)).trans h.tr, tried := h.tried.kept (ho _ (by omega)), gi := (ho _ (by omega)).trans h.gi, rcle := h.rcle, wit := h.wit }
  · have := (Below.refl 0 w).setCell (p := ⟨B + 2, 0, none⟩) (Nat.zero_le _) (.slice (some ⟨g, 0, none⟩) R.length cap) |>.size
    omega
  · refine (ownsRow_pop (by simp [natVs]) hr).kept (grownBy_setCell' w (B + 2) _) (.inr ?_)
    simp [Value.ownBlock]
    omega

theorem GI.mark (h : GI B w0 s p mv w R rc) (ht : Tried w' (B + 4) (p.dead rc)) (hg : w.grownBy w' (some (B + 4))) : GI B w0 s p mv w' R rc := by
  have hs := h.sz
  obtain ⟨lv, hl, hr⟩ := h.li
  have ho : ∀ k, k < w.heap.size → k ≠ B + 4 → w'.heap[k]? = w.heap[k]? := fun k hk hk' => hg.block k hk (by simpa using hk')
  refine { below := h.below.grown hg (by omega) (fun k e => by cases e; omega), sz := Nat.le_trans hs hg.size, v := (ho _ (by omega) (by omega)).trans h.v, ma := (ho _ (by omega) (by omega)).trans h.ma, li := ⟨lv, (ho _ (by omega) (by omega)).trans hl, ?_⟩, re := (ho _ (by omega) (by omega)).trans h.re, tr := (ho _ (by omega) (by omega)).trans h.tr, tried := ht, gi := (ho _ (by omega) (by omega)).trans h.gi, rcle := h.rcle, wit := h.wit }
  refine hr.kept hg ?_
  cases e : lv.ownBlock with
  | none => exact .inl rfl
  | some g => exact .inr (by have := (hr.lt g e).1; simp; omega)

end Go.Proofs.Ytgapbaelifcifaa
