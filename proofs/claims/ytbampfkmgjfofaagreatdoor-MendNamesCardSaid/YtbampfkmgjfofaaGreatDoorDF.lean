/- Mend: Versions: which requests stand in them, and where they lie. -/
import Derived.Test.YtbampfkmgjfofaaGreatDoorDE
import Derived.Test.YtbampfkmgjfofaaGreatDoorCI
namespace Go.Proofs.YtbampfkmgjfofaaGreatDoor
open Go.RowKit

/-- The texts that requests put. -/
def putM (L : List Req) (i : Nat) : List Tx := (L.getD i default).put

/-- The accepted requests, in the order of their places. -/
structure PlaceOk (l : Lex) (S : List (Int × Int × Int)) (R : List (Tx × Int)) (out win : Int) (L : List Req) (Q : List Ask) : Prop where
  sorted : Q.Pairwise fun x y => ltOf cmpS y x = false
  apart : Q.Pairwise fun x y => meetA x y = false
  flow : Flow R.length 0 Q
  mem : ∀ x ∈ Q, x.i < L.length ∧ x.f = (L.getD x.i default).f ∧ x.c = (L.getD x.i default).c ∧ aloneM (entries l) S R out win L x = 0
  idx : ∀ i, i ∈ Q.map (·.i) ↔ i < L.length ∧ decideM l S R out win L i = 0
  nodup : (Q.map (·.i)).Nodup
  few : Q.length ≤ L.length

theorem asks_of_own1 {W : World} {base n cap : Nat} {a : Option Addr} {V : List Ask} (h : W.ownsRow base 162 6 (.slice a n cap) n (flatV askC V)) (hV : V.length = n) : AsksAt base W a V := by
  intro i hi
  obtain ⟨g, hg, ha, -⟩ := owns_cells h (by omega)
  subst ha
  have h2 := holdsK_of_owns h hV
  have h3 := asks_of_holdsK (base := base) h2 hg
  exact h3 i hi

theorem fold_small (al : Ask → Int) : ∀ (A : List Ask) (st : (Nat → Int) × List Ask), (A.foldl (stepA al) st).2.length ≤ st.2.length + A.length
  | [], st => by simp
  | x :: A, st => by
    have h := fold_small al A (stepA al st x)
    have h2 : (stepA al st x).2.length ≤ st.2.length + 1 := by
      unfold stepA
      split
      · simp
      · simp
    rw [List.foldl_cons, List.length_cons]
    omega

theorem runA_small (al : Ask → Int) (T : List Ask) : (runA al T).2.length ≤ T.length := by
  have h := fold_small al T (fun _ => 0, [])
  unfold runA
  simpa using h

theorem alone_fit {E : List Ent} {S : List (Int × Int × Int)} {R : List (Tx × Int)} {out win : Int} {L : List Req} {x : Ask} (h : aloneM E S R out win L x = 0) :
    0 ≤ x.f ∧ 0 ≤ x.c ∧ x.f + x.c ≤ R.length ∧ (L.getD x.i default).put.length ≤ 8 ∧ (x.c = 0 → (L.getD x.i default).put ≠ []) ∧ keepsM S (senseM E (textsM R x.f.toNat x.c.toNat)) (senseM E (L.getD x.i default).put) = true := by
  have hz := alone_zero h
  have z0 := misses_not (hz 0 (by omega))
  have z1 := malformed_not (hz 1 (by omega))
  have z1' : malformedM (L.getD x.i default).put x = false := hz 1 (by omega)
  have z4 : distortsM E S R (L.getD x.i default).put x.f.toNat x.c.toNat = false := hz 4 (by omega)
  refine ⟨z0.2.1, z0.1, z0.2.2, z1.1, fun hc hp => ?_, ?_⟩
  · unfold malformedM at z1'
    rw [hp, hc] at z1'
    simp at z1'
  · unfold distortsM at z4
    simpa using z4

theorem place_ok {W : World} {l : Lex} {S : List (Int × Int × Int)} {R : List (Tx × Int)} {out win : Int} {L : List Req} {T Q : List Ask} (hT : TakenOk W L T)
    (hp : Q.Perm (runA (aloneM (entries l) S R out win L) T).2) (hs : Q.Pairwise fun x y => ltOf cmpS y x = false) : PlaceOk l S R out win L Q := by
  have hnd : (T.map (·.i)).Nodup := hT.2.2.1.nodup_iff.2 List.nodup_range
  have hR := runA_acc (al := aloneM (entries l) S R out win L) hnd
  have hD := (run_order (l := l) (S := S) (R := R) (out := out) (win := win) hT).1
  have hap : Q.Pairwise fun x y => meetA x y = false := (hp.pairwise_iff (fun {x y} h => by rw [meetA_comm]; exact h)).2 hR.apart
  have hfit : ∀ x ∈ Q, (0 : Int) ≤ x.f ∧ 0 ≤ x.c ∧ x.f + x.c ≤ R.length := fun x hx => by
    have h := alone_fit (hR.fine x (hp.mem_iff.1 hx))
    exact ⟨h.1, h.2.1, h.2.2.1⟩
  refine ⟨hs, hap, flow_of hs hap hfit (by omega), fun x hx => ?_, fun i => ?_, ?_, by rw [hp.length_eq, ← hT.1]; exact runA_small _ _⟩
  · have hx2 := hp.mem_iff.1 hx
    have hxT := ((hR.mem x).1 hx2).1
    obtain ⟨h1, h2⟩ := hT.2.1 x hxT
    exact ⟨h1, h2.2.2.1, h2.2.2.2.1, hR.fine x hx2⟩
  · constructor
    · intro hi
      obtain ⟨x, hx, rfl⟩ := List.mem_map.1 hi
      have hx2 := (hR.mem x).1 (hp.mem_iff.1 hx)
      exact ⟨(hT.2.1 x hx2.1).1, by rw [← hD]; exact hx2.2⟩
    · rintro ⟨h1, h2⟩
      obtain ⟨x, hx, rfl⟩ := List.mem_map.1 (hT.2.2.1.mem_iff.2 (List.mem_range.2 h1))
      exact List.mem_map.2 ⟨x, hp.mem_iff.2 ((hR.mem x).2 ⟨hx, by rw [hD]; exact h2⟩), rfl⟩
  · exact (hp.map _).nodup_iff.2 hR.nodup

/-- There is one such list alone, as far as segments go. -/
theorem place_one {l : Lex} {S : List (Int × Int × Int)} {R : List (Tx × Int)} {out win : Int} {L : List Req} {Q Q' : List Ask} (h : PlaceOk l S R out win L Q) (h' : PlaceOk l S R out win L Q') : Q.map key3 = Q'.map key3 := by
  have key : ∀ {Q : List Ask}, PlaceOk l S R out win L Q → Q.map key3 = (Q.map (·.i)).map fun i => ((L.getD i default).f, (L.getD i default).c, i) := fun {Q} h => by
    rw [List.map_map]
    refine List.map_congr_left fun x hx => ?_
    obtain ⟨-, h2, h3, -⟩ := h.mem x hx
    unfold key3
    simp only [Function.comp]
    rw [h2, h3]
  have hp : (Q.map (·.i)).Perm (Q'.map (·.i)) := (List.perm_ext_iff_of_nodup h.nodup h'.nodup).2 fun i => by rw [h.idx, h'.idx]
  refine order3_one ?_ (keys_sorted h.sorted h.apart) (keys_sorted h'.sorted h'.apart)
  rw [key h, key h']
  exact hp.map _

/-- What Versions returns, with its memory. -/
def VersionsPost (l : Lex) (S : List (Int × Int × Int)) (R : List (Tx × Int)) (out win : Int) (L : List Req) (w : World) (e : Ending) (w' : World) : Prop :=
  Below w.heap.size w w' ∧ if hearErr l S R out win L = 0 then ∃ ra n rc Q, e = .returned (.tuple #[.slice ra n rc, .int .i64 0]) ∧ PlaceOk l S R out win L Q ∧ (segM R (putM L) Q).length = n ∧ SegsAt w' ra (segM R (putM L) Q)
    else e = .returned (.tuple #[.slice none 0 0, .int .i64 (hearErr l S R out win L)])

theorem heard_small {l : Lex} {S : List (Int × Int × Int)} {R : List (Tx × Int)} {out win : Int} {L : List Req} (h : hearErr l S R out win L = 0) : R.length ≤ 80 ∧ L.length ≤ 20 := by
  unfold hearErr at h
  split at h
  · split at h
    · rename_i h2
      split at h
      · cases h
      · unfold reportErr at h2
        split at h2
        · rename_i h3
          unfold reportOk at h3
          simp only [Bool.and_eq_true, decide_eq_true_eq] at h3
          exact ⟨h3.1, by omega⟩
        · cases h2
    · exact absurd h ‹_›
  · exact absurd h ‹_›

set_option maxRecDepth 100000 in
set_option maxHeartbeats 4000000 in
theorem versionsF_any (l : Lex) (a1 a2 a3 : Option Addr) (n1 n2 n3 c1 c2 c3 : Nat) (S : List (Int × Int × Int)) (sa : Option Addr) (sn sc : Nat) (R : List (Tx × Int)) (wa : Option Addr) (wn wc : Nat) (out win : Int) (L : List Req) (ra : Option Addr) (rn rc : Nat) (w : World)
    (h1 : l.nums.length = n1) (h2 : l.names.length = n2) (h3 : l.nots.length = n3) (hL : LexAt w a1 a2 a3 l) (hs : S.length = sn) (hsn : sn ≤ maxLen) (hS : SwapsAt w sa S)
    (hR : R.length = wn) (hw : wn ≤ maxLen) (hcap : wn ≤ wc) (hRS : Nums w wa R) (hq : L.length = rn) (hqs : ReqsAt w ra L) (hqc : ∀ q ∈ L, I64 q.c) (hstd : Std w) :
    Calls Tryz.prog 38 #[.agg #[.slice a1 n1 c1, .slice a2 n2 c2, .slice a3 n3 c3], .slice sa sn sc, .agg #[.slice wa wn wc, .int .i64 out, .int .i64 win], .slice ra rn rc] w (VersionsPost l S R out win L w) := by
  obtain ⟨W1, hW1⟩ : ∃ W, W = (w.alloc (.cells #[.slice a1 n1 c1, .slice a2 n2 c2, .slice a3 n3 c3] 34)).alloc (.cells #[.slice wa wn wc, .int .i64 out, .int .i64 win] 62) := ⟨_, rfl⟩
  have hB1 : Below w.heap.size w W1 := by rw [hW1]; exact ((Below.refl _ w).alloc (Nat.le_refl _) _).alloc (by simp) _
  have hcon := hear_any l a1 a2 a3 n1 n2 n3 c1 c2 c3 S sa sn sc R wa wn wc out win L ra rn rc W1 h1 h2 h3 (hL.grown hB1) hs hsn (hS.grown hB1) hR hw hcap (hRS.grown hB1) hq (hqs.grown hB1) hqc (hstd.grown hB1)
  have hRS1 := hRS.grown hB1
  have HRL := hid hR
  have HCAP := hid hcap
  have HQL := hid hq
  clear h1 h2 h3 hL hs hS hR hRS hq hqs hqc hstd hw hcap hsn
  go_enter Tryz.func38, Tryz.ntmps38
  go_wp2_with fail
  rw [← hW1]
  clear hW1
  refine hcon.mono ?_
  rintro e w2 ⟨hb2, he⟩
  by_cases h0 : hearErr l S R out win L = 0
  · rw [if_pos h0] at he
    obtain ⟨mb, ab, va, T, rfl, hab, hT, hrow, hown⟩ := he
    obtain ⟨ua, uc, rfl⟩ := owns_shape hown
    have H0 := hid h0
    have hsm := heard_small h0
    have hnd : (T.map (·.i)).Nodup := hT.2.2.1.nodup_iff.2 List.nodup_range
    have hac := runA_acc (al := aloneM (entries l) S R out win L) hnd
    have hVA := asks_of_own1 hown rfl
    have hvl : (runA (aloneM (entries l) S R out win L) T).2.length ≤ 20 := by
      have h2 := runA_small (aloneM (entries l) S R out win L) T
      have h3 := hT.1
      omega
    have hP : ∀ x ∈ (runA (aloneM (entries l) S R out win L) T).2, x.pn = (putM L x.i).length ∧ (putM L x.i).length ≤ 1000 ∧ Strs W1 x.pa (putM L x.i) := fun x hx => by
      obtain ⟨-, hr⟩ := hT.2.1 x ((hac.mem x).1 hx).1
      have h8 := (alone_fit (hac.fine x hx)).2.2.2.1
      exact ⟨hr.2.2.2.2.1, by unfold putM; omega, hr.2.2.2.2.2.2⟩
    have hfit : ∀ x ∈ (runA (aloneM (entries l) S R out win L) T).2, 0 ≤ x.f ∧ 0 ≤ x.c ∧ x.f + x.c ≤ wn := fun x hx => by
      have h := alone_fit (hac.fine x hx)
      rw [HRL.out] at h
      exact ⟨h.1, h.2.1, h.2.2.1⟩
    have hpl : ∀ Q, Q.Perm (runA (aloneM (entries l) S R out win L) T).2 → Q.Pairwise (fun x y => ltOf cmpS y x = false) → PlaceOk l S R out win L Q := fun Q hp hs => place_ok hT hp hs
    have HPL := hid hpl
    have hap := hac.apart
    have hw80 : wn ≤ 80 := by rw [← HRL.out]; exact hsm.1
    generalize (runA (aloneM (entries l) S R out win L) T).2 = V at hown hVA hvl hP hfit HPL hap
    obtain ⟨vn, hvn⟩ : ∃ n, V.length = n := ⟨_, rfl⟩
    rw [hvn] at hown hvl ⊢
    obtain ⟨W3, hW3⟩ : ∃ W, W = w2.alloc (.cells #[.slice wa wn wc, .int .i64 out, .int .i64 win, .map (some mb), .slice sa sn sc, .slice ua vn uc, .slice (some ⟨ab, 0, none⟩) rn rn] 130) := ⟨_, rfl⟩
    have hB3 : Below w2.heap.size w2 W3 := by rw [hW3]; exact below_alloc w2 _
    have hB13 : Below W1.heap.size W1 W3 := hb2.trans (hB3.mono hb2.size)
    have k0 : W3.cell? ⟨w2.heap.size, 0, none⟩ = some (.slice wa wn wc) := by rw [hW3]; simp [go_sem]
    have k5 : W3.cell? ⟨w2.heap.size, 5, none⟩ = some (.slice ua vn uc) := by rw [hW3]; simp [go_sem]
    have hseg := segments_any w2.heap.size wa wn wc R ua vn uc W1.heap.size V (putM L) W3 k0 k5 HRL.out hw80 HCAP.out (hRS1.grown hB13) hvn hvl (fun i hi => by
      obtain ⟨g, off, hg, ha, e0, e1, e2, e3, e4, e5⟩ := hVA i hi
      exact ⟨g, off, hg, ha, cell_grown hB3 e0, cell_grown hB3 e1, cell_grown hB3 e2, cell_grown hB3 e3, cell_grown hB3 e4, cell_grown hB3 e5⟩) (fun x hx => ⟨(hP x hx).1, (hP x hx).2.1, (hP x hx).2.2.grown hB13⟩) hfit hap
    have HB := hid (below_then hB1 hB13)
    clear h0 hcon hown hrow hVA hP hfit hpl hap hac hnd hT hvn hvl k0 k5 hsm hB13 hB3
    go_wp2_with fail
    rw [← hW3]
    clear hW3
    refine hseg.mono ?_
    rintro e w4 ⟨sg, sn2, sc2, Q, rfl, hq1, hq2, hq3, hq4, hb4⟩
    have HQ := hid (And.intro (HPL.out Q hq1 hq2) (And.intro hq3 hq4))
    clear hseg hq1 hq2 hq3 hq4
    go_wp2
    exact bodyPost_ret (v := .tuple #[.slice sg sn2 sc2, .int .i64 0]) (by simp [results, Tryz.f38, go_sem]) rfl ⟨below_then HB.out hb4, by rw [if_pos H0.out]; exact ⟨sg, sn2, sc2, Q, rfl, HQ.out.1, HQ.out.2.1, HQ.out.2.2⟩⟩
  · rw [if_neg h0] at he
    subst he
    have H0 := hid h0
    obtain ⟨er, her⟩ : ∃ er, hearErr l S R out win L = er := ⟨_, rfl⟩
    rw [her] at h0 ⊢
    have HE := hid her
    have g0 : (er != 0) = true := by simpa using h0
    clear h0 hcon her
    go_wp2
    exact bodyPost_ret (v := .tuple #[.slice none 0 0, .int .i64 er]) (by simp [results, Tryz.f38, go_sem]) rfl ⟨hB1.trans ((hb2.alloc hb2.size _).mono hB1.size), by rw [if_neg H0.out, HE.out]⟩

end Go.Proofs.YtbampfkmgjfofaaGreatDoor
