import Derived.Test.YtcelllihidkphaaDoorTyD
import Derived.Test.YtcelllihidkphaaDoorTyL
import Derived.Test.YtcelllihidkphaaDoorTie
import Derived.Test.YtcelllihidkphaaDoorCards
import Derived.ShutString
import Derived.ChangeMaps5
import Derived.Handy
import Derived.Lay
import Derived.Lib.LaidTab
import Derived.Stop.LaidErr
import Derived.SevenTiedAt
namespace Go.Proofs.YtcelllihidkphaaDoor.typingFields
open Go.ChangeShapes Go.WideShapes Go.ChangeAt Go.RowKit
set_option linter.unusedVariables false
theorem walk {w : World} (hT : Flds w) (f : Int) (nm : ByteArray) : Calls Tryd.prog 3 #[.int .i64 f, .string nm] w fun e w' => e = .returned (.bool true) ∧ Below w.heap.size w w' := by
  have d1 := hide (field_any hT f)
  have d2 := hide (fun X => rfield_any X f)
  have d3 := hide (fun (X : World) (h : Flds X) => fieldOf_any h nm)
  have d4 := hide (fun X => rfieldOf_any X nm)
  have HT := hide hT
  clear hT
  obtain ⟨a, ha⟩ : ∃ a, a = (fldS f).1 := ⟨_, rfl⟩
  obtain ⟨b, hb⟩ : ∃ b, b = (fldS f).2 := ⟨_, rfl⟩
  obtain ⟨c, hc⟩ : ∃ c : Int, c = (fofS nm).1 := ⟨_, rfl⟩
  obtain ⟨g, hg⟩ : ∃ g, g = (fofS nm).2 := ⟨_, rfl⟩
  rw [← ha, ← hb] at d1 d2
  rw [← hc, ← hg] at d3 d4
  clear ha hb hc hg
  go_enter Tryd.func3, Tryd.ntmps3
  go_wp2_with fail
  refine (unhide d1).mono ?_
  rintro e w1 ⟨rfl, m, hw⟩
  have B1 : Hid (Below w.heap.size w w1) := by rw [hw]; exact below_drewN (Below.refl _ _) m
  clear hw
  go_wp2_with fail
  refine (unhide d2 _).mono ?_
  rintro e w2 ⟨rfl, hw⟩
  have B2 : Hid (Below w.heap.size w w2) := (unhide B1).trans (hw.mono (unhide B1).size)
  clear hw
  go_wp2_with fail
  refine (unhide d3 _ ((unhide HT).below (unhide B2))).mono ?_
  rintro e w3 ⟨rfl, hw⟩
  have B3 : Hid (Below w.heap.size w w3) := (unhide B2).trans (hw.mono (unhide B2).size)
  clear hw
  go_wp2_with fail
  refine (unhide d4 _).mono ?_
  rintro e w4 ⟨rfl, hw⟩
  have B4 : Hid (Below w.heap.size w w4) := (unhide B3).trans (hw.mono (unhide B3).size)
  clear hw
  go_wp2_with fail
  go_ret
  exact ⟨rfl, unhide B4⟩

theorem own : ownKnob Tryd.prog.godebug = none := by kernel_rfl
theorem plainMet {W : World} (h : laidMetH Tryd.prog Rows.typingFieldsRow.laid W) : laidMet Tryd.prog Rows.typingFieldsRow.laid W := by
  rw [MakeChecks.laidMetH_plain _ _ _ (by kernel_rfl)] at h
  exact h
set_option maxRecDepth 100000 in
theorem lifted (os : Os) (started : os.Started) (H : Type) (enc : TypeId × Value → H) :
    ReturnsInHanded {} Tryd.checked os 3 .any (fun w args => (Rows.typingFieldsSpec.pre enc Tryd.prog Tryd.f3 [] false w args ∧ laidMetH Tryd.prog Rows.typingFieldsRow.laid w) ∧ sizedMet enc Tryd.prog Tryd.f3 (OpenSpec.ofChange Rows.typingFieldsSpec) false w args)
      (Rows.typingFieldsSpec.post enc Tryd.prog Tryd.f3 false true false false) := by
  refine returnsInHanded_of_change_and (C := Tryd.checked) (X := fun w _ => laidMetH Tryd.prog Rows.typingFieldsRow.laid w) (fun _ _ _ hh h => h.of_heap hh) own started (by kernel_rfl) Tryd.func3
    (ChangeSpec.witness_shaped (enc := enc) (C := Tryd.checked) (os := os) (X := fun w _ => laidMetH Tryd.prog Rows.typingFieldsRow.laid w) false (World.laidAll Tryd.prog os Rows.typingFieldsRow.laid) #[.int .i64 0, .string ⟨#[]⟩] 8 (World.laidAll_os _ _ _)
      (World.shaped_of_ZipB (by kernel_rfl) (by kernel_rfl)) (by kernel_rfl) (by kernel_rfl) (by kernel_rfl)
      (by rw [MakeChecks.laidMetH_plain _ _ _ (by kernel_rfl)]; exact laidMet_laidAll _ (by kernel_rfl) (by kernel_rfl))) ?_
  intro W base args ds gs before hval0 hW _ _ hL _
  have hval : ∀ (j : Nat) t v, Tryd.f3.params[j]? = some t → args[j]? = some v → Value.okWide Tryd.prog W .any base t v := hval0
  have hW' := hW
  obtain ⟨p, q, hA0, hV, rfl, hfz, hnd⟩ := hW
  have hA : DataW.TrodAll enc Tryd.prog W 0 (fun _ => true) true Tryd.f3.params.toList args.toList ds p := hA0
  rw [Tryd.params3] at hA hval
  obtain ⟨v0, vs0, d0, ds0, p0, q0, hargs0, rfl, rfl, h0, r0⟩ := trodAll_cons hA
  obtain ⟨v1, vs1, d1, ds1, p1, q1, hargs1, rfl, rfl, h1, r1⟩ := trodAll_cons r0
  obtain ⟨rfl, rfl, rfl⟩ := trodAll_nil r1
  obtain rfl : args = #[v0, v1] := by cases args; simp_all
  obtain ⟨rfl, rfl⟩ := trodVars_none hV
  obtain ⟨a0, rfl, rfl, rfl, w0⟩ := open_int Tryd.underlying3 (hval 0 3 v0 rfl rfl) h0
  obtain ⟨s1, rfl, rfl, rfl, w1⟩ := Go.ChangeMaps.open_string Tryd.underlying9 (hval 1 9 v1 rfl rfl) h1
  clear hA0 hval0
  refine (walk (flds_of_head (plainMet hL)) a0 s1).mono fun e W' ⟨he, bel⟩ => ?_
  subst he
  exact ⟨_, rfl, _, _, _, [], _, [], hW', trodAll_mk1 (shut_bool Tryd.underlying4 _), (trodAll_cons_mk (shut_int Tryd.underlying3 w0) (trodAll_cons_mk (Go.ChangeMaps.shut_string Tryd.underlying9 w1) trodAll_mk0)), rfl, bel.frame _, fun h => by cases h⟩

theorem over : Rows.typingFieldsRow.holds Tryd.pinned (OpenSpec.ofChange Rows.typingFieldsSpec) :=
  OpenClaim.holds_of_wide 3 Tryd.f3 rfl rfl rfl rfl rfl rfl rfl ⟨rfl, rfl, rfl, rfl, rfl⟩ rfl rfl rfl rfl rfl (by kernel_rfl) Tryd.func3 (by kernel_rfl)
    (of_decide_eq_true (by kernel_rfl)) (by unfold Func.isWrapper; first | (rw [if_pos (by decide +kernel)]; kernel_rfl) | (rw [if_neg (by decide +kernel)]; exact ⟨rfl, rfl⟩))
    (fun os started H enc _ => lifted os started H enc)
end Go.Proofs.YtcelllihidkphaaDoor.typingFields
namespace Go.Proofs.YtcelllihidkphaaDoor
theorem typingFields_card : Rows.TypingFieldsCardSaid :=
  Claim7.holds_tied_plain_at .later [] [.data] true (true, "52ccb4313995885e48c590b0b420504ba934ebe77c7848dfc41b28b68b96e3d1") true typingFields.over (fun _ h => by cases h) (by kernel_rfl) (fun _ h => by cases h) typingFields_row_tie rfl ⟨rfl, rfl⟩ (by kernel_rfl) rfl
    (fun f fn hf hfn => by
      obtain rfl : f = 3 := Option.some.inj ((show Tryd.prog.funcNamed "daybook/daybooklaw14.TypingFields" = some 3 by kernel_rfl).symm.trans hf) |>.symm
      obtain rfl : fn = Tryd.f3 := (Option.some.inj (Tryd.func3.symm.trans hfn)).symm
      exact ⟨by kernel_rfl, fun j t ht => by
        rw [Tryd.params3] at ht
        have hm : t ∈ [3, 9] := by simpa using Array.mem_of_getElem? ht
        have hall : ([3, 9].all fun u => !Tryd.prog.wantsStandIn u) = true := by kernel_rfl
        exact (show Tryd.prog.wantsStandIn t = false by simpa using List.all_eq_true.1 hall t hm)⟩)
    (by kernel_rfl)
#print axioms typingFields_card
end Go.Proofs.YtcelllihidkphaaDoor
