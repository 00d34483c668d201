/- The statement on TakeEasier: whatever the input, the law returns true, and the input reads as it did. No condition. -/
import Derived.Test.YtgapbaelifcifaaRD
import Derived.Test.YtgapbaelifcifaaIB
namespace Go.Proofs.Ytgapbaelifcifaa
open Go.ChangeShapes Go.WideShapes Go.ChangeAt Go.RowKit Go.Joins Go.Deep

section
variable {H : Type} {enc : TypeId × Value → H} {W : World}

set_option maxRecDepth 100000 in
theorem open_reporter {base : Nat} {r : Reach} {v : Value} {d : DataW H} {p : List MemPlace} (hv : Value.okWide Try.prog W r base 91 v) (h : DataW.Trod enc Try.prog W 0 (fun _ => true) true 91 v d p) :
    ∃ x1 x2 x3 : Int, v = .agg #[.int .i64 x1, .int .i64 x2, .int .i64 x3] := by
  obtain ⟨cs, rfl, hsz⟩ := okWide_struct Try.underlying91 hv
  obtain ⟨fuel, hf⟩ := h
  obtain ⟨x1, x2, x3, hx⟩ := reporter_ints (cs := cs.toList) (by simpa using hsz.trans cells91) (by simpa [Value.cells] using hf)
  exact ⟨x1, x2, x3, by rw [← Array.toArray_toList (xs := cs), hx]⟩

end

set_option maxRecDepth 100000 in
theorem takeEasier_lifted (os : Os) (started : os.Started) (H : Type) (enc : TypeId × Value → H) :
    ReturnsInHanded {} Try.checked os 13 .any (Rows.takeEasierSpec.pre6 enc Try.prog Try.f13 Rows.takeEasierRow.domain false) (Rows.takeEasierSpec.post enc Try.prog Try.f13 false true false false) := by
  refine returnsInHanded_of_change (C := Try.checked) Try.own started (by kernel_rfl) Try.func13
    (ChangeSpec.witness6 (enc := enc) (C := Try.checked) false ⟨#[], #[.agg #[.int .i64 0, .slice none 0 0, .int .i64 0, .int .i64 0], .agg #[.slice none 0 0, .int .i64 0, .int .i64 0], .int .u8 0, .int .u8 0, .int .u16 0, .agg #[.int .i64 0, .int .i64 0, .int .i64 0]], []⟩ 8 (by kernel_rfl) (by kernel_rfl) (by kernel_rfl) (by kernel_rfl)) ?_
  intro W base args ds gs before hval0 hW hcnd _
  have hval : ∀ (j : Nat) t v, Try.f13.params[j]? = some t → args[j]? = some v → Value.okWide Try.prog W .any base t v := hval0
  have hW' := hW
  obtain ⟨p, q, hA0, hV, rfl, hfz, hnd⟩ := hW
  have hA : DataW.TrodAll enc Try.prog W 0 (fun _ => true) true Try.f13.params.toList args.toList ds p := hA0
  rw [Try.params13] at hA hval
  obtain ⟨v0, v1, v2, v3, v4, v5, d0, d1, d2, d3, d4, d5, p0, p1, p2, p3, p4, p5, rfl, rfl, rfl, h0, h1, h2, h3, h4, h5⟩ := trodAll_six hA
  obtain ⟨rfl, rfl⟩ := trodVars_none hV
  have h0k := h0
  have h1k := h1
  have h2k := h2
  have h3k := h3
  have h4k := h4
  have h5k := h5
  have hlt : ∀ x ∈ (p0 ++ p1 ++ p2 ++ p3 ++ p4 ++ p5), x.block < W.heap.size := fun x hx => hW'.lt x (by simpa using hx)
  obtain ⟨len, long, short, a, n, cap, L, rfl, hL, hn, hS⟩ := open_sitting (hval 0 24 v0 rfl rfl) h0
  obtain ⟨due, delay, ca, m, cc, C, rfl, hC, hm, hCr⟩ := open_office (hval 1 27 v1 rfl rfl) h1
  obtain ⟨which, rfl, rfl, rfl, wa⟩ := open_int Try.underlying5 (hval 2 5 v2 rfl rfl) h2
  obtain ⟨at_, rfl, rfl, rfl, wt⟩ := open_int Try.underlying5 (hval 3 5 v3 rfl rfl) h3
  obtain ⟨by_, rfl, rfl, rfl, wb⟩ := open_int Try.underlying83 (hval 4 83 v4 rfl rfl) h4
  obtain ⟨mo1, mo2, mo3, rfl⟩ := open_reporter (hval 5 91 v5 rfl rfl) h5
  clear hA0 hval0 hA
  simp only [List.append_nil] at hW'
  refine (takeEasier_any L len long short n cap a C due delay m cc ca which at_ by_ (mo1, mo2, mo3) W hL hn hS hC hm hCr (by simpa [Lit.wf, IntKind.min, IntKind.max, IntKind.signed, IntKind.bits] using wa) (by simpa [Lit.wf, IntKind.min, IntKind.max, IntKind.signed, IntKind.bits] using wt) (by simpa [Lit.wf, IntKind.min, IntKind.max, IntKind.signed, IntKind.bits] using wb)).mono fun e W' ⟨he, hB⟩ => ?_
  subst he
  exact ⟨_, rfl, _, _, _, [], _, [], hW', trodAll_mk1 (shut_bool Try.underlying4 true), trodAll_mk6 (Below.trod Try.laidOut (by kernel_rfl) (of_decide_eq_true (by kernel_rfl)) h0k hB (fun x hx => hlt x (by first | exact absurd hx (by simp) | simp [hx]))) (Below.trod Try.laidOut (by kernel_rfl) (of_decide_eq_true (by kernel_rfl)) h1k hB (fun x hx => hlt x (by first | exact absurd hx (by simp) | simp [hx]))) (Below.trod Try.laidOut (by kernel_rfl) (of_decide_eq_true (by kernel_rfl)) h2k hB (fun x hx => hlt x (by first | exact absurd hx (by simp) | simp [hx]))) (Below.trod Try.laidOut (by kernel_rfl) (of_decide_eq_true (by kernel_rfl)) h3k hB (fun x hx => hlt x (by first | exact absurd hx (by simp) | simp [hx]))) (Below.trod Try.laidOut (by kernel_rfl) (of_decide_eq_true (by kernel_rfl)) h4k hB (fun x hx => hlt x (by first | exact absurd hx (by simp) | simp [hx]))) (Below.trod Try.laidOut (by kernel_rfl) (of_decide_eq_true (by kernel_rfl)) h5k hB (fun x hx => hlt x (by first | exact absurd hx (by simp) | simp [hx]))), rfl, hB.frame _, fun h => by cases h⟩

theorem takeEasier_holds : Rows.TakeEasierSaid :=
  OpenClaim.holds_of_wide 13 Try.f13 rfl rfl rfl rfl rfl rfl rfl ⟨rfl, rfl, rfl, rfl, rfl⟩ rfl rfl rfl rfl rfl (by kernel_rfl) Try.func13 (by kernel_rfl)
    (of_decide_eq_true (by kernel_rfl)) (by unfold Func.isWrapper; first | (rw [if_pos (by decide +kernel)]; kernel_rfl) | (rw [if_neg (by decide +kernel)]; exact ⟨rfl, rfl⟩))
    (fun os started H enc _ => takeEasier_lifted os started H enc)

end Go.Proofs.Ytgapbaelifcifaa
