import Derived.Test.YtdeibifjiefapaaGreatDoorW16
/- chart: fits (22). -/
namespace Go.Proofs.YtdeibifjiefapaaGreatDoor
open Go Go.Shelf Go.ChangeShapes Go.WideShapes Go.ChangeAt Go.RowKit Go.Maps Go.Sort
set_option linter.unusedVariables false
/-- whether an account can come behind those of a list -/
def fitB (L : List Ac) (a : Ac) : Bool := nameL a.nm && decide (1 ≤ a.dy ∧ a.dy ≤ 3652059) && (match ups a.nm with
  | [] => decide (1 ≤ a.ty ∧ a.ty ≤ 5)
  | p :: _ => match fnd L p with
    | none => false
    | some b => (b.ty == a.ty) && decide (b.dy ≤ a.dy) && (a.cl || !b.cl))
set_option maxRecDepth 100000 in
set_option maxHeartbeats 4000000 in
theorem fits_any {W : World} {d : Nat} {S : Nat → Prop} {L : List Ac} {g : Gh} (h : Ct W d S L g) (a : Ac) (hsz : (txN a.nm).size < 4611686018427387904) :
    Calls Tryz.prog 76 #[ptr d, acV a] W fun e w' => e = .returned (.bool (fitB L a)) ∧ Below W.heap.size W w' := by
  obtain ⟨F, hF⟩ : ∃ F, F = fitB L a := ⟨_, rfl⟩
  rw [← hF]
  have dG := hide (good_any (txN a.nm) hsz)
  rw [txN_list] at dG
  have dD := hide (isDay_any a.dy)
  have dT := hide (isType_any a.ty)
  have dP := hide (parent_any (txN a.nm) hsz)
  rw [txN_list] at dP
  have HC := hide h
  clear h
  unfold acV
  have HBOX : Hid (∀ X, Below (W.heap.size + 1) (W.alloc (.cells #[.string (txN a.nm), .int .i64 a.ty, .int .i64 a.dy, .bool a.cl] 65)) X → (X.cell? ⟨W.heap.size, 0, none⟩ = some (.string (txN a.nm)) ∧ X.cell? ⟨W.heap.size, 1, none⟩ = some (.int .i64 a.ty) ∧ X.cell? ⟨W.heap.size, 2, none⟩ = some (.int .i64 a.dy) ∧ X.cell? ⟨W.heap.size, 3, none⟩ = some (.bool a.cl)) ∧ Below W.heap.size W X ∧ W.heap.size < X.heap.size) := fun X hb => by
    have r1 : X.heap[W.heap.size]? = some (.cells #[.string (txN a.nm), .int .i64 a.ty, .int .i64 a.dy, .bool a.cl] 65) := (hb.block W.heap.size (by omega)).trans (World.alloc_heap_new W _)
    exact ⟨⟨cell_of r1 rfl, cell_of r1 rfl, cell_of r1 rfl, cell_of r1 rfl⟩, ((Below.refl _ W).alloc (Nat.le_refl _) _).trans (hb.mono (by omega)), (Array.getElem?_eq_some_iff.1 r1).1⟩
  cases hn : nameL a.nm with
  | false =>
    have e1 : F = false := by rw [hF, fitB, hn]; rfl
    subst e1
    rw [hn] at dG
    clear hF hn
    go_enter Tryz.func76, Tryz.ntmps76
    go_upto_region 2 with (go_at_call 80; refine (unhide dG _).mono ?_; rintro e X ⟨rfl, hb⟩; have HB := hide (unhide HBOX X (by rw [World.size_alloc] at hb; exact hb)).2.1; clear hb)
    go_wp2
    go_ret
    exact ⟨rfl, unhide HB⟩
  | true =>
    rw [hn] at dG
    have hrest : F = (decide (1 ≤ a.dy ∧ a.dy ≤ 3652059) && (match ups a.nm with
      | [] => decide (1 ≤ a.ty ∧ a.ty ≤ 5)
      | p :: _ => match fnd L p with
        | none => false
        | some b => (b.ty == a.ty) && decide (b.dy ≤ a.dy) && (a.cl || !b.cl))) := by rw [hF, fitB, hn]; rfl
    clear hF
    cases hd : decide (1 ≤ a.dy ∧ a.dy ≤ 3652059) with
    | false =>
      have e1 : F = false := by rw [hrest, hd]; rfl
      subst e1
      rw [hd] at dD
      clear hrest hn hd
      go_enter Tryz.func76, Tryz.ntmps76
      go_upto_region 2 with (first | (go_at_call 80; refine (unhide dG _).mono ?_; rintro e X ⟨rfl, hb⟩; have hk := unhide HBOX X (by rw [World.size_alloc] at hb; exact hb); have k2 := hk.1.2.2.1; have HB := hide hk.2.1; clear hb hk) | (go_at_call 81; refine (unhide dD _).mono ?_; rintro e X2 ⟨rfl, hX2⟩; subst hX2))
      go_wp2
      go_ret
      exact ⟨rfl, unhide HB⟩
    | true =>
      rw [hd] at dD hrest
      rw [Bool.true_and] at hrest
      clear hd
      rcases ups_cases a.nm with e | ⟨p, e, _⟩
      · have e1 : parS a.nm = (⟨#[]⟩, false) := by rw [parS, if_pos hn, e]
        rw [e1] at dP
        rw [e] at hrest
        have hr2 : F = decide (1 ≤ a.ty ∧ a.ty ≤ 5) := hrest
        rw [← hr2] at dT
        clear hrest hn e e1 hr2
        go_enter Tryz.func76, Tryz.ntmps76
        go_upto_region 3 with (first | (go_at_call 80; refine (unhide dG _).mono ?_; rintro e X ⟨rfl, hb⟩; have hk := unhide HBOX X (by rw [World.size_alloc] at hb; exact hb); have k0 := hk.1.1; have k2 := hk.1.2.2.1; have HK := hide hk; have HX := hide hb; clear hb hk) | (go_at_call 81; refine (unhide dD _).mono ?_; rintro e X2 ⟨rfl, hX2⟩; subst hX2))
        go_upto_region 4 with (go_at_call 85; refine (unhide dP _).mono ?_; rintro e X3 ⟨rfl, hb3⟩)
        have b3 : Below (W.heap.size + 1) (W.alloc (.cells #[.string (txN a.nm), .int .i64 a.ty, .int .i64 a.dy, .bool a.cl] 65)) X3 := by
          have h1 := unhide HX
          rw [World.size_alloc] at h1
          exact h1.trans (hb3.mono (by have := (unhide HK).2.2; omega))
        have hk3 := unhide HBOX X3 b3
        have k1 := hk3.1.2.1
        have HB := hide hk3.2.1
        clear hb3 b3 hk3 k0 k2
        go_wp2_with (go_at_call 82; refine (unhide dT _).mono ?_; rintro e X4 ⟨rfl, hX4⟩; subst hX4)
        go_ret
        exact ⟨rfl, unhide HB⟩
      · have e1 : parS a.nm = (⟨p.toArray⟩, true) := by rw [parS, if_pos hn, e]
        rw [e1] at dP
        rw [e] at hrest
        have hps : (txN p).size < 4611686018427387904 := by
          have h1 : p.length < a.nm.length := by
            have := par_lt (name_ne hn)
            rw [par, e] at this
            exact this
          have h2 : (txN a.nm).size = a.nm.length := by show a.nm.toArray.size = _; simp
          show p.toArray.size < _
          simp
          omega
        have dF0 : ∀ X, Below W.heap.size W X → Calls Tryz.prog 22 #[ptr d, .string (txN p)] X fun e w' => e = .returned (.tuple #[acV (findA L p), .bool (fnd L p).isSome]) ∧ Below X.heap.size X w' := fun X hb => by
          have := find_any ((unhide HC).below hb) (txN p) hps
          rw [txN_list] at this
          exact this
        have dF := hide dF0
        change F = (match fnd L p with | none => false | some b => (b.ty == a.ty) && decide (b.dy ≤ a.dy) && (a.cl || !b.cl)) at hrest
        clear hn e e1 dF0
        cases hf : fnd L p with
        | none =>
          rw [hf] at hrest dF
          have hr2 : F = false := hrest
          subst hr2
          clear hrest hf
          unfold acV at dF
          obtain ⟨b, hb⟩ : ∃ b, b = findA L p := ⟨_, rfl⟩
          rw [← hb] at dF
          clear hb
          go_enter Tryz.func76, Tryz.ntmps76
          go_upto_region 3 with (first | (go_at_call 80; refine (unhide dG _).mono ?_; rintro e X ⟨rfl, hb⟩; have hk := unhide HBOX X (by rw [World.size_alloc] at hb; exact hb); have k0 := hk.1.1; have k2 := hk.1.2.2.1; have HK := hide hk; have HX := hide hb; clear hb hk) | (go_at_call 81; refine (unhide dD _).mono ?_; rintro e X2 ⟨rfl, hX2⟩; subst hX2))
          go_upto_region 4 with (go_at_call 85; refine (unhide dP _).mono ?_; rintro e X3 ⟨rfl, hb3⟩)
          have b3 : Below (W.heap.size + 1) (W.alloc (.cells #[.string (txN a.nm), .int .i64 a.ty, .int .i64 a.dy, .bool a.cl] 65)) X3 := by
            have h1 := unhide HX
            rw [World.size_alloc] at h1
            exact h1.trans (hb3.mono (by have := (unhide HK).2.2; omega))
          have hk3 := unhide HBOX X3 b3
          have dF3 := hide (unhide dF X3 hk3.2.1)
          have B3 := hide b3
          clear hb3 b3 hk3 k0 k2
          go_upto_region 7 with (go_at_call 22; refine (unhide dF3).mono ?_; rintro e X4 ⟨rfl, hb4⟩)
          have b4 := (unhide B3).trans (hb4.mono (by have := (unhide B3).size; rw [World.size_alloc] at this; omega))
          have HB := hide (unhide HBOX X4 b4).2.1
          clear hb4 b4
          go_wp2
          go_ret
          exact ⟨rfl, (unhide HB).alloc (unhide HB).size _⟩
        | some b =>
          have hfb : findA L p = b := by rw [findA, hf]; rfl
          rw [hf] at hrest dF
          rw [hfb] at dF
          have hr2 : F = ((b.ty == a.ty) && decide (b.dy ≤ a.dy) && (a.cl || !b.cl)) := hrest
          clear hrest hf hfb
          unfold acV at dF
          by_cases h1 : b.ty = a.ty
          · have h1b : (b.ty == a.ty) = true := by simp [h1]
            by_cases h2 : b.dy ≤ a.dy
            · rcases Bool.eq_false_or_eq_true a.cl with h3 | h3
              · have e1 : F = true := by rw [hr2, h1b, decide_eq_true h2, h3]; rfl
                subst e1
                have H3 := hide h3
                clear hr2 h3 h1
                go_enter Tryz.func76, Tryz.ntmps76
                go_upto_region 3 with (first | (go_at_call 80; refine (unhide dG _).mono ?_; rintro e X ⟨rfl, hb⟩; have hk := unhide HBOX X (by rw [World.size_alloc] at hb; exact hb); have k0 := hk.1.1; have k2 := hk.1.2.2.1; have HK := hide hk; have HX := hide hb; clear hb hk) | (go_at_call 81; refine (unhide dD _).mono ?_; rintro e X2 ⟨rfl, hX2⟩; subst hX2))
                go_upto_region 4 with (go_at_call 85; refine (unhide dP _).mono ?_; rintro e X3 ⟨rfl, hb3⟩)
                have b3 : Below (W.heap.size + 1) (W.alloc (.cells #[.string (txN a.nm), .int .i64 a.ty, .int .i64 a.dy, .bool a.cl] 65)) X3 := by
                  have h1 := unhide HX
                  rw [World.size_alloc] at h1
                  exact h1.trans (hb3.mono (by have := (unhide HK).2.2; omega))
                have hk3 := unhide HBOX X3 b3
                have dF3 := hide (unhide dF X3 hk3.2.1)
                have B3 := hide b3
                clear hb3 b3 hk3 k0 k2
                go_upto_region 7 with (go_at_call 22; refine (unhide dF3).mono ?_; rintro e X4 ⟨rfl, hb4⟩)
                have b4 := (unhide B3).trans (hb4.mono (by have := (unhide B3).size; rw [World.size_alloc] at this; omega))
                have hk4 := unhide HBOX X4 b4
                have HB := hide hk4.2.1
                have m1 : ∀ o, (X4.alloc o).cell? ⟨W.heap.size, 1, none⟩ = some (.int .i64 a.ty) := fun o => (World.cell?_alloc_lt X4 o ⟨W.heap.size, 1, none⟩ hk4.2.2).trans hk4.1.2.1
                have m2 : ∀ o, (X4.alloc o).cell? ⟨W.heap.size, 2, none⟩ = some (.int .i64 a.dy) := fun o => (World.cell?_alloc_lt X4 o ⟨W.heap.size, 2, none⟩ hk4.2.2).trans hk4.1.2.2.1
                have m3 : ∀ o, (X4.alloc o).cell? ⟨W.heap.size, 3, none⟩ = some (.bool a.cl) := fun o => (World.cell?_alloc_lt X4 o ⟨W.heap.size, 3, none⟩ hk4.2.2).trans hk4.1.2.2.2
                rw [unhide H3] at m3
                clear hb4 b4 hk4
                go_wp2
                go_ret
                exact ⟨rfl, (unhide HB).alloc (unhide HB).size _⟩
              · rcases Bool.eq_false_or_eq_true b.cl with h4 | h4
                · have e1 : F = false := by rw [hr2, h3, h4]; simp
                  subst e1
                  rw [h4] at dF
                  have H3 := hide h3
                  clear hr2 h3 h4 h1
                  go_enter Tryz.func76, Tryz.ntmps76
                  go_upto_region 3 with (first | (go_at_call 80; refine (unhide dG _).mono ?_; rintro e X ⟨rfl, hb⟩; have hk := unhide HBOX X (by rw [World.size_alloc] at hb; exact hb); have k0 := hk.1.1; have k2 := hk.1.2.2.1; have HK := hide hk; have HX := hide hb; clear hb hk) | (go_at_call 81; refine (unhide dD _).mono ?_; rintro e X2 ⟨rfl, hX2⟩; subst hX2))
                  go_upto_region 4 with (go_at_call 85; refine (unhide dP _).mono ?_; rintro e X3 ⟨rfl, hb3⟩)
                  have b3 : Below (W.heap.size + 1) (W.alloc (.cells #[.string (txN a.nm), .int .i64 a.ty, .int .i64 a.dy, .bool a.cl] 65)) X3 := by
                    have h1 := unhide HX
                    rw [World.size_alloc] at h1
                    exact h1.trans (hb3.mono (by have := (unhide HK).2.2; omega))
                  have hk3 := unhide HBOX X3 b3
                  have dF3 := hide (unhide dF X3 hk3.2.1)
                  have B3 := hide b3
                  clear hb3 b3 hk3 k0 k2
                  go_upto_region 7 with (go_at_call 22; refine (unhide dF3).mono ?_; rintro e X4 ⟨rfl, hb4⟩)
                  have b4 := (unhide B3).trans (hb4.mono (by have := (unhide B3).size; rw [World.size_alloc] at this; omega))
                  have hk4 := unhide HBOX X4 b4
                  have HB := hide hk4.2.1
                  have m1 : ∀ o, (X4.alloc o).cell? ⟨W.heap.size, 1, none⟩ = some (.int .i64 a.ty) := fun o => (World.cell?_alloc_lt X4 o ⟨W.heap.size, 1, none⟩ hk4.2.2).trans hk4.1.2.1
                  have m2 : ∀ o, (X4.alloc o).cell? ⟨W.heap.size, 2, none⟩ = some (.int .i64 a.dy) := fun o => (World.cell?_alloc_lt X4 o ⟨W.heap.size, 2, none⟩ hk4.2.2).trans hk4.1.2.2.1
                  have m3 : ∀ o, (X4.alloc o).cell? ⟨W.heap.size, 3, none⟩ = some (.bool a.cl) := fun o => (World.cell?_alloc_lt X4 o ⟨W.heap.size, 3, none⟩ hk4.2.2).trans hk4.1.2.2.2
                  rw [unhide H3] at m3
                  clear hb4 b4 hk4
                  go_wp2
                  go_ret
                  exact ⟨rfl, (unhide HB).alloc (unhide HB).size _⟩
                · have e1 : F = true := by rw [hr2, h1b, decide_eq_true h2, h3, h4]; rfl
                  subst e1
                  rw [h4] at dF
                  have H3 := hide h3
                  clear hr2 h3 h4 h1
                  go_enter Tryz.func76, Tryz.ntmps76
                  go_upto_region 3 with (first | (go_at_call 80; refine (unhide dG _).mono ?_; rintro e X ⟨rfl, hb⟩; have hk := unhide HBOX X (by rw [World.size_alloc] at hb; exact hb); have k0 := hk.1.1; have k2 := hk.1.2.2.1; have HK := hide hk; have HX := hide hb; clear hb hk) | (go_at_call 81; refine (unhide dD _).mono ?_; rintro e X2 ⟨rfl, hX2⟩; subst hX2))
                  go_upto_region 4 with (go_at_call 85; refine (unhide dP _).mono ?_; rintro e X3 ⟨rfl, hb3⟩)
                  have b3 : Below (W.heap.size + 1) (W.alloc (.cells #[.string (txN a.nm), .int .i64 a.ty, .int .i64 a.dy, .bool a.cl] 65)) X3 := by
                    have h1 := unhide HX
                    rw [World.size_alloc] at h1
                    exact h1.trans (hb3.mono (by have := (unhide HK).2.2; omega))
                  have hk3 := unhide HBOX X3 b3
                  have dF3 := hide (unhide dF X3 hk3.2.1)
                  have B3 := hide b3
                  clear hb3 b3 hk3 k0 k2
                  go_upto_region 7 with (go_at_call 22; refine (unhide dF3).mono ?_; rintro e X4 ⟨rfl, hb4⟩)
                  have b4 := (unhide B3).trans (hb4.mono (by have := (unhide B3).size; rw [World.size_alloc] at this; omega))
                  have hk4 := unhide HBOX X4 b4
                  have HB := hide hk4.2.1
                  have m1 : ∀ o, (X4.alloc o).cell? ⟨W.heap.size, 1, none⟩ = some (.int .i64 a.ty) := fun o => (World.cell?_alloc_lt X4 o ⟨W.heap.size, 1, none⟩ hk4.2.2).trans hk4.1.2.1
                  have m2 : ∀ o, (X4.alloc o).cell? ⟨W.heap.size, 2, none⟩ = some (.int .i64 a.dy) := fun o => (World.cell?_alloc_lt X4 o ⟨W.heap.size, 2, none⟩ hk4.2.2).trans hk4.1.2.2.1
                  have m3 : ∀ o, (X4.alloc o).cell? ⟨W.heap.size, 3, none⟩ = some (.bool a.cl) := fun o => (World.cell?_alloc_lt X4 o ⟨W.heap.size, 3, none⟩ hk4.2.2).trans hk4.1.2.2.2
                  rw [unhide H3] at m3
                  clear hb4 b4 hk4
                  go_wp2
                  go_ret
                  exact ⟨rfl, (unhide HB).alloc (unhide HB).size _⟩
            · have e1 : F = false := by rw [hr2, decide_eq_false h2]; simp
              subst e1
              clear hr2 h1
              go_enter Tryz.func76, Tryz.ntmps76
              go_upto_region 3 with (first | (go_at_call 80; refine (unhide dG _).mono ?_; rintro e X ⟨rfl, hb⟩; have hk := unhide HBOX X (by rw [World.size_alloc] at hb; exact hb); have k0 := hk.1.1; have k2 := hk.1.2.2.1; have HK := hide hk; have HX := hide hb; clear hb hk) | (go_at_call 81; refine (unhide dD _).mono ?_; rintro e X2 ⟨rfl, hX2⟩; subst hX2))
              go_upto_region 4 with (go_at_call 85; refine (unhide dP _).mono ?_; rintro e X3 ⟨rfl, hb3⟩)
              have b3 : Below (W.heap.size + 1) (W.alloc (.cells #[.string (txN a.nm), .int .i64 a.ty, .int .i64 a.dy, .bool a.cl] 65)) X3 := by
                have h1 := unhide HX
                rw [World.size_alloc] at h1
                exact h1.trans (hb3.mono (by have := (unhide HK).2.2; omega))
              have hk3 := unhide HBOX X3 b3
              have dF3 := hide (unhide dF X3 hk3.2.1)
              have B3 := hide b3
              clear hb3 b3 hk3 k0 k2
              go_upto_region 7 with (go_at_call 22; refine (unhide dF3).mono ?_; rintro e X4 ⟨rfl, hb4⟩)
              have b4 := (unhide B3).trans (hb4.mono (by have := (unhide B3).size; rw [World.size_alloc] at this; omega))
              have hk4 := unhide HBOX X4 b4
              have HB := hide hk4.2.1
              have m1 : ∀ o, (X4.alloc o).cell? ⟨W.heap.size, 1, none⟩ = some (.int .i64 a.ty) := fun o => (World.cell?_alloc_lt X4 o ⟨W.heap.size, 1, none⟩ hk4.2.2).trans hk4.1.2.1
              have m2 : ∀ o, (X4.alloc o).cell? ⟨W.heap.size, 2, none⟩ = some (.int .i64 a.dy) := fun o => (World.cell?_alloc_lt X4 o ⟨W.heap.size, 2, none⟩ hk4.2.2).trans hk4.1.2.2.1
              have m3 : ∀ o, (X4.alloc o).cell? ⟨W.heap.size, 3, none⟩ = some (.bool a.cl) := fun o => (World.cell?_alloc_lt X4 o ⟨W.heap.size, 3, none⟩ hk4.2.2).trans hk4.1.2.2.2
              skip
              clear hb4 b4 hk4
              go_wp2
              go_ret
              exact ⟨rfl, (unhide HB).alloc (unhide HB).size _⟩
          · have h1b : (b.ty == a.ty) = false := by simp [h1]
            have e1 : F = false := by rw [hr2, h1b]; simp
            subst e1
            clear hr2
            go_enter Tryz.func76, Tryz.ntmps76
            go_upto_region 3 with (first | (go_at_call 80; refine (unhide dG _).mono ?_; rintro e X ⟨rfl, hb⟩; have hk := unhide HBOX X (by rw [World.size_alloc] at hb; exact hb); have k0 := hk.1.1; have k2 := hk.1.2.2.1; have HK := hide hk; have HX := hide hb; clear hb hk) | (go_at_call 81; refine (unhide dD _).mono ?_; rintro e X2 ⟨rfl, hX2⟩; subst hX2))
            go_upto_region 4 with (go_at_call 85; refine (unhide dP _).mono ?_; rintro e X3 ⟨rfl, hb3⟩)
            have b3 : Below (W.heap.size + 1) (W.alloc (.cells #[.string (txN a.nm), .int .i64 a.ty, .int .i64 a.dy, .bool a.cl] 65)) X3 := by
              have h1 := unhide HX
              rw [World.size_alloc] at h1
              exact h1.trans (hb3.mono (by have := (unhide HK).2.2; omega))
            have hk3 := unhide HBOX X3 b3
            have dF3 := hide (unhide dF X3 hk3.2.1)
            have B3 := hide b3
            clear hb3 b3 hk3 k0 k2
            go_upto_region 7 with (go_at_call 22; refine (unhide dF3).mono ?_; rintro e X4 ⟨rfl, hb4⟩)
            have b4 := (unhide B3).trans (hb4.mono (by have := (unhide B3).size; rw [World.size_alloc] at this; omega))
            have hk4 := unhide HBOX X4 b4
            have HB := hide hk4.2.1
            have m1 : ∀ o, (X4.alloc o).cell? ⟨W.heap.size, 1, none⟩ = some (.int .i64 a.ty) := fun o => (World.cell?_alloc_lt X4 o ⟨W.heap.size, 1, none⟩ hk4.2.2).trans hk4.1.2.1
            have m2 : ∀ o, (X4.alloc o).cell? ⟨W.heap.size, 2, none⟩ = some (.int .i64 a.dy) := fun o => (World.cell?_alloc_lt X4 o ⟨W.heap.size, 2, none⟩ hk4.2.2).trans hk4.1.2.2.1
            have m3 : ∀ o, (X4.alloc o).cell? ⟨W.heap.size, 3, none⟩ = some (.bool a.cl) := fun o => (World.cell?_alloc_lt X4 o ⟨W.heap.size, 3, none⟩ hk4.2.2).trans hk4.1.2.2.2
            skip
            clear hb4 b4 hk4
            go_wp2
            go_ret
            exact ⟨rfl, (unhide HB).alloc (unhide HB).size _⟩
end Go.Proofs.YtdeibifjiefapaaGreatDoor
