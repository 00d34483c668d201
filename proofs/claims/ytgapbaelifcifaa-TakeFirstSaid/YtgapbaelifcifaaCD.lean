/- Contract of the law's chamber: the chapter's example. -/
import Derived.Test.YtgapbaelifcifaaCB
import Derived.Test.YtgapbaelifcifaaCC
namespace Go.Proofs.Ytgapbaelifcifaa
open Go.RowKit

set_option maxRecDepth 100000 in
set_option maxHeartbeats 1000000 in
theorem chamber_any (w : World) :
    Calls Try.prog 46 #[] w fun e w' => ∃ pa pc ca cc, e = .returned (.tuple #[.agg #[.int .i64 1000, .slice pa 1 pc, .int .i64 180, .int .i64 60], .agg #[.slice ca 3 cc, .int .i64 400, .int .i64 30]]) ∧ Spans w' pa [(400, 500)] ∧ Crew w' ca [(0, 1, 60), (1, 2, 0), (0, 1, 300)] ∧ Below w.heap.size w w' := by
  go_enter Try.func46, Try.ntmps46
  go_wp2_with fail
  refine bodyPost_ret (v := .tuple #[.agg #[.int .i64 1000, .slice (some ⟨w.heap.size + 1 + 1, 0, none⟩) 1 1, .int .i64 180, .int .i64 60], .agg #[.slice (some ⟨w.heap.size + 1 + 1 + 1, 0, none⟩) 3 3, .int .i64 400, .int .i64 30]]) (by simp [results, Try.f46, go_sem]) rfl ⟨_, _, _, _, rfl, ?_, ?_, ?_⟩
  · intro i hi
    match i, hi with
    | 0, _ => exact ⟨_, 0, rfl, by simp [go_sem], by simp [go_sem]⟩
  · intro i hi
    match i, hi with
    | 0, _ => exact ⟨_, 0, rfl, by simp [go_sem], by simp [go_sem], by simp [go_sem]⟩
    | 1, _ => exact ⟨_, 0, rfl, by simp [go_sem], by simp [go_sem], by simp [go_sem]⟩
    | 2, _ => exact ⟨_, 0, rfl, by simp [go_sem], by simp [go_sem], by simp [go_sem]⟩
  · exact ((((Below.refl _ w).alloc (Nat.le_refl _) _).alloc (by simp) _).alloc (by simp; omega) _).alloc (by simp; omega) _

theorem exTakes : takesOf 1000 180 60 [(400, 500)] = [(0, 180), (180, 400), (500, 680), (680, 860), (860, 1000)] := by decide +kernel

theorem exSit : sitOk 1000 180 60 [(400, 500)] = true := by decide +kernel

theorem exOff : offOk 400 30 [(0, 1, 60), (1, 2, 0), (0, 1, 300)] = true := by decide +kernel

/-- The path of a rota, as a test. -/
def How.pathB (p : How) : List Nat → Nat → List Nat → Bool
  | [], _, _ => true
  | r :: rs, k, H => decide (k < p.tn) && (decide (r < p.cn) && (p.may k r (decide (H.getD r 0 ≤ k)) && How.pathB p rs (k + 1) (H.set r (p.ag k r))))

theorem How.pathB_iff (p : How) : ∀ (rs : List Nat) (k : Nat) (H : List Nat), p.pathB rs k H = true ↔ p.path rs k H := by
  intro rs
  induction rs with
  | nil => intro k H; simp [How.pathB, How.path]
  | cons r rs ih => intro k H; simp [How.pathB, How.path, ih]

def lexB : List Nat → List Nat → Bool
  | [], _ => true
  | _ :: _, [] => false
  | a :: xs, b :: bs => decide (a < b) || (decide (a = b) && lexB xs bs)

theorem lexB_iff : ∀ xs bs : List Nat, lexB xs bs = true ↔ lexLe xs bs := by
  intro xs
  induction xs with
  | nil => intro bs; simp [lexB, lexLe]
  | cons a xs ih => intro bs; cases bs <;> simp [lexB, lexLe, ih]

theorem lexLe_antisymm : ∀ xs bs : List Nat, xs.length = bs.length → lexLe xs bs → lexLe bs xs → xs = bs := by
  intro xs
  induction xs with
  | nil => intro bs h _ _; cases bs with
    | nil => rfl
    | cons _ _ => simp at h
  | cons a xs ih =>
    intro bs h h1 h2
    cases bs with
    | nil => simp at h
    | cons b bs =>
      simp only [lexLe] at h1 h2
      rcases h1 with h1 | ⟨rfl, h1⟩
      · rcases h2 with h2 | ⟨rfl, _⟩ <;> omega
      · rcases h2 with h2 | ⟨_, h2⟩
        · omega
        · rw [ih bs (by simpa using h) h1 h2]

def exHow : How := howOf 400 30 [(0, 1, 60), (1, 2, 0), (0, 1, 300)] [(0, 180), (180, 400), (500, 680), (680, 860), (860, 1000)]

theorem exPath : exHow.path [1, 0, 2, 1, 0] 0 [0, 0, 0, 0, 0] := by
  rw [← How.pathB_iff]
  decide +kernel

theorem exLeast : ∀ a b c d e : Fin 3, exHow.pathB [a.1, b.1, c.1, d.1, e.1] 0 [0, 0, 0, 0, 0] = true → lexB [1, 0, 2, 1, 0] [a.1, b.1, c.1, d.1, e.1] = true := by decide +kernel

theorem exBest (R : List Nat) (h : exHow.best R 0 [0, 0, 0, 0, 0]) : R = [1, 0, 2, 1, 0] := by
  obtain ⟨h1, h2, h3⟩ := h
  have hl := h3 _ exPath rfl
  have h5 : R.length = 5 := by have : exHow.tn = 5 := rfl; omega
  match R, h5 with
  | [a, b, c, d, e], _ =>
    have hp := h1
    simp only [How.path] at h1
    have hc : exHow.cn = 3 := rfl
    obtain ⟨-, ha, -, -, hb, -, -, hcc, -, -, hd, -, -, he, -, -⟩ := h1
    rw [hc] at ha hb hcc hd he
    have := exLeast ⟨a, ha⟩ ⟨b, hb⟩ ⟨c, hcc⟩ ⟨d, hd⟩ ⟨e, he⟩ ((How.pathB_iff _ _ _ _).2 hp)
    exact lexLe_antisymm _ _ rfl hl ((lexB_iff _ _).1 this)

theorem exDead (rc : Nat) (h : exHow.dead rc 0 [0, 0, 0, 0, 0]) : False := by
  have := (h _ exPath).1
  have h5 : exHow.tn = 5 := rfl
  simp [h5] at this

end Go.Proofs.Ytgapbaelifcifaa
