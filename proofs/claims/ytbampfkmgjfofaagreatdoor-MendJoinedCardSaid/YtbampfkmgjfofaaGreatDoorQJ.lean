/- The statement on MendJoined: whatever the input, the law returns true, and the input reads as it did. No condition but that the library's listed variables hold what the program's text gives them, which the card ties. -/
import Derived.Test.YtbampfkmgjfofaaGreatDoorCU
import Derived.Test.YtbampfkmgjfofaaGreatDoorRB
import Derived.Test.YtbampfkmgjfofaaGreatDoorCards
import Derived.Test.YtbampfkmgjfofaaGreatDoorTie
import Derived.SevenTiedAt
namespace Go.Proofs.YtbampfkmgjfofaaGreatDoor
open Go.ChangeShapes Go.WideShapes Go.ChangeAt Go.RowKit Go.Joins Go.Deep

set_option maxRecDepth 100000 in
theorem mendJoined_lifted (os : Os) (started : os.Started) (H : Type) (enc : TypeId × Value → H) :
    ReturnsInHanded {} Tryz.checked os 14 .any (fun w args => (Rows.mendJoinedSpec.pre enc Tryz.prog Tryz.f14 [] false w args ∧ laidMetH Tryz.prog laid5 w) ∧ sizedMet enc Tryz.prog Tryz.f14 (OpenSpec.ofChange Rows.mendJoinedSpec) false w args)
      (Rows.mendJoinedSpec.post enc Tryz.prog Tryz.f14 false true false false) := by
  refine returnsInHanded_of_change_and (C := Tryz.checked) (X := fun w _ => laidMetH Tryz.prog laid5 w) (fun _ _ _ hh h => h.of_heap hh) Tryz.own started (by kernel_rfl) Tryz.func14
    (ChangeSpec.witness_shaped (enc := enc) (C := Tryz.checked) (os := os) (X := fun w _ => laidMetH Tryz.prog laid5 w) false (World.doorLaid Tryz.prog 400 os) #[.agg #[.slice none 0 0, .slice none 0 0, .slice none 0 0], .slice none 0 0, .slice none 0 0] 8 rfl (World.shaped_of_RefB (by kernel_rfl) (by kernel_rfl)) (by kernel_rfl) (by kernel_rfl) (by kernel_rfl) (door_met os _)) ?_
  intro W base args ds gs before hval0 hW _ _ hLd _
  have hval : ∀ (j : Nat) t v, Tryz.f14.params[j]? = some t → args[j]? = some v → Value.okWide Tryz.prog W .any base t v := hval0
  have hW' := hW
  obtain ⟨p, q, hA0, hV, rfl, hfz, hnd⟩ := hW
  have hA : DataW.TrodAll enc Tryz.prog W 0 (fun _ => true) true Tryz.f14.params.toList args.toList ds p := hA0
  rw [Tryz.params14] at hA hval
  obtain ⟨v0, v1, v2, d0, d1, d2, p0, p1, p2, rfl, rfl, rfl, h0, h1, h2⟩ := trodAll_three hA
  obtain ⟨rfl, rfl⟩ := trodVars_none hV
  have h0k := h0
  have h1k := h1
  have h2k := h2
  have hlt : ∀ x ∈ (p0 ++ p1 ++ p2), x.block < W.heap.size := fun x hx => hW'.lt x (by simpa using hx)
  obtain ⟨l, a1, a2, a3, n1, n2, n3, c1, c2, c3, rfl, hl1, hl2, hl3, hLx⟩ := open_lex (hval 0 26 v0 rfl rfl) h0
  obtain ⟨xa, xn, xc, xL, rfl, xhL, xhn, xhc, xhS⟩ := open_strs (hval 1 24 v1 rfl rfl) h1
  obtain ⟨ya, yn, yc, yL, rfl, yhL, yhn, yhc, yhS⟩ := open_strs (hval 2 24 v2 rfl rfl) h2
  have hstd := std_of_laid hLd
  clear hA0 hval0 hA hLd
  simp only [List.append_nil] at hW'
  refine (mendJoined_any l a1 a2 a3 n1 n2 n3 c1 c2 c3 xL xn xc xa yL yn yc ya W hl1 hl2 hl3 hLx xhL xhn xhS yhL yhn yhS hstd).mono fun e W' ⟨he, hB⟩ => ?_
  subst he
  exact ⟨_, rfl, _, _, _, [], _, [], hW', trodAll_mk1 (shut_bool Tryz.underlying4 true), trodAll_mk3 (Below.trod Tryz.laidOut (by kernel_rfl) (of_decide_eq_true (by kernel_rfl)) h0k hB (fun x hx => hlt x (by first | exact absurd hx (by simp) | simp [hx]))) (Below.trod Tryz.laidOut (by kernel_rfl) (of_decide_eq_true (by kernel_rfl)) h1k hB (fun x hx => hlt x (by first | exact absurd hx (by simp) | simp [hx]))) (Below.trod Tryz.laidOut (by kernel_rfl) (of_decide_eq_true (by kernel_rfl)) h2k hB (fun x hx => hlt x (by first | exact absurd hx (by simp) | simp [hx]))), rfl, hB.frame _, fun h => by cases h⟩

set_option maxHeartbeats 8000000 in
theorem mendJoined_holds : Rows.MendJoinedSaid :=
  OpenClaim.holds_of_wide 14 Tryz.f14 rfl rfl rfl rfl rfl rfl rfl ⟨rfl, rfl, rfl, rfl, rfl⟩ rfl rfl rfl rfl rfl (by as_aux_lemma => kernel_rfl) Tryz.func14 (by as_aux_lemma => kernel_rfl)
    (of_decide_eq_true (by as_aux_lemma => kernel_rfl)) (by as_aux_lemma => unfold Func.isWrapper; first | (rw [if_pos (by decide +kernel)]; kernel_rfl) | (rw [if_neg (by decide +kernel)]; exact ⟨rfl, rfl⟩))
    (fun os started H enc _ => mendJoined_lifted os started H enc)

theorem mendJoined_card_holds : Rows.MendJoinedCardSaid :=
  Claim7.holds_tied_plain_at .later [] [.data, .data, .data, .sentinel, .sentinel] true (true, "876da6eae01b9619944d89768fe873cb0fccc2001765805d35079c2511c41857") true
    mendJoined_holds (fun _ h => by cases h) (by kernel_rfl) (fun _ h => by cases h) mendJoined_row_tie rfl ⟨rfl, rfl⟩ (by kernel_rfl) rfl
    (fun f fn hf hfn => by
      obtain rfl : f = 14 := Option.some.inj ((show Tryz.prog.funcNamed "palantype/palantypelaw04.MendJoined" = some 14 by kernel_rfl).symm.trans hf) |>.symm
      obtain rfl : fn = Tryz.f14 := (Option.some.inj (Tryz.func14.symm.trans hfn)).symm
      exact ⟨by kernel_rfl, fun j t ht => by
        rw [Tryz.params14] at ht
        have hm : t ∈ [26, 24, 24] := by simpa using Array.mem_of_getElem? ht
        have hall : ([26, 24, 24].all fun u => !Tryz.prog.wantsStandIn u) = true := by kernel_rfl
        exact (show Tryz.prog.wantsStandIn t = false by simpa using List.all_eq_true.1 hall t hm)⟩)
    (by kernel_rfl)

end Go.Proofs.YtbampfkmgjfofaaGreatDoor
