import Derived.Test.YtpeefmbdhkfhmaaGreatDoorW41
import Derived.Test.YtpeefmbdhkfhmaaGreatDoorW26
import Derived.Test.YtpeefmbdhkfhmaaGreatDoorW22
/- SumsTells (3), SumsAll (4). -/
namespace Go.Proofs.YtpeefmbdhkfhmaaGreatDoor.Kg
open Go Go.RowKit Go.Shelf Go.ChangeShapes Go.WideShapes Go.ChangeAt Go.Maps
set_option linter.unusedVariables false
set_option linter.unusedSimpArgs false
set_option maxRecDepth 100000
set_option maxHeartbeats 8000000
theorem ActsIn.below {W W' : World} {p : Option Addr} {L : List ActV} (h : ActsIn W p L) (hb : Below W.heap.size W W') : ActsIn W' p L := fun k hk => by
  obtain ⟨b, off, e, hl, hr⟩ := h k hk
  exact ⟨b, off, e, Nat.lt_of_lt_of_le hl hb.size, fun j u hu => keep1 hb hl (hr j u hu)⟩
theorem ActOk.below {W W' : World} {a : ActV} (h : ActOk W a) (hb : Below W.heap.size W W') : ActOk W' a := ⟨h.n0, h.li.below hb, h.am⟩

theorem walk3 {W : World} (hP : Pw W) {pX pA : Option Addr} {cX cA : Nat} {X : List Bl} {A : List ActV} (hX0 : pX = none → cX = 0) (hLX : Lies kB W pX X) (hXo : ∀ y ∈ X, -9223372036854775808 ≤ y.own ∧ y.own ≤ 9223372036854775807) (hA : ActsIn W pA A) (hAo : ∀ a ∈ A, ActOk W a) (hsum : (X.map wBl).sum + (A.map wAc).sum ≤ 1048576) (RF : ∀ (W : World) (p : Option Addr) (c : Nat) (X : List Bl), Lies kB W p X → Sml (nmB X) → (∀ x ∈ X, -9223372036854775808 ≤ x.own ∧ x.own ≤ 9223372036854775807) → Calls Tryz.prog 8 #[.slice p X.length c] W fun e w' => Below W.heap.size W w' ∧ ((¬ Good X ∧ e = .returned (.tuple #[.pointer none, .int .i64 80])) ∨ (Good X ∧ ∃ d S, e = .returned (.tuple #[.pointer (some ⟨d, 0, none⟩), .int .i64 0]) ∧ Rd w' d S (nmB X) (owB X) ∧ ∀ q, S q → W.heap.size ≤ q))) :
    Calls Tryz.prog 3 #[.agg #[.slice pX X.length cX, .slice pA A.length cA]] W fun e w' => e = .returned (.bool true) ∧ Below W.heap.size W w' := by
  have hb0 : Below W.heap.size W (W.alloc (.cells #[.slice pX X.length cX, .slice pA A.length cA] 25)) := bal (Below.refl _ _) _
  have d5 := hide (plays_any (cA := cA) (hP.below hb0) hX0 (hLX.below hb0) hXo (hA.below hb0) (fun a ha => (hAo a ha).below hb0) hsum false RF)
  have HB0 := hide hb0
  clear RF hP hX0 hLX hXo hA hAo hsum hb0
  go_enter Tryz.func3, Tryz.ntmps3
  go_wp2_with fail
  refine (unhide d5).mono ?_
  rintro e w1 ⟨rfl, hb⟩
  have HB : Hid (Below W.heap.size W w1) := (unhide HB0).trans (hb.mono (unhide HB0).size)
  clear hb
  go_wp2_with fail
  go_ret
  exact ⟨rfl, unhide HB⟩

theorem walk4 {W : World} (hP : Pw W) {pX pA : Option Addr} {cX cA : Nat} {X : List Bl} {A : List ActV} (hX0 : pX = none → cX = 0) (hLX : Lies kB W pX X) (hXo : ∀ y ∈ X, -9223372036854775808 ≤ y.own ∧ y.own ≤ 9223372036854775807) (hA : ActsIn W pA A) (hAo : ∀ a ∈ A, ActOk W a) (hsum : (X.map wBl).sum + (A.map wAc).sum ≤ 1048576) (RF : ∀ (W : World) (p : Option Addr) (c : Nat) (X : List Bl), Lies kB W p X → Sml (nmB X) → (∀ x ∈ X, -9223372036854775808 ≤ x.own ∧ x.own ≤ 9223372036854775807) → Calls Tryz.prog 8 #[.slice p X.length c] W fun e w' => Below W.heap.size W w' ∧ ((¬ Good X ∧ e = .returned (.tuple #[.pointer none, .int .i64 80])) ∨ (Good X ∧ ∃ d S, e = .returned (.tuple #[.pointer (some ⟨d, 0, none⟩), .int .i64 0]) ∧ Rd w' d S (nmB X) (owB X) ∧ ∀ q, S q → W.heap.size ≤ q))) :
    Calls Tryz.prog 4 #[.agg #[.slice pX X.length cX, .slice pA A.length cA]] W fun e w' => e = .returned (.bool true) ∧ Below W.heap.size W w' := by
  have hb0 : Below W.heap.size W (W.alloc (.cells #[.slice pX X.length cX, .slice pA A.length cA] 25)) := bal (Below.refl _ _) _
  have d5 := hide (plays_any (cA := cA) (hP.below hb0) hX0 (hLX.below hb0) hXo (hA.below hb0) (fun a ha => (hAo a ha).below hb0) hsum true RF)
  have HB0 := hide hb0
  clear RF hP hX0 hLX hXo hA hAo hsum hb0
  go_enter Tryz.func4, Tryz.ntmps4
  go_wp2_with fail
  refine (unhide d5).mono ?_
  rintro e w1 ⟨rfl, hb⟩
  have HB : Hid (Below W.heap.size W w1) := (unhide HB0).trans (hb.mono (unhide HB0).size)
  clear hb
  go_wp2_with fail
  go_ret
  exact ⟨rfl, unhide HB⟩
end Go.Proofs.YtpeefmbdhkfhmaaGreatDoor.Kg
/- The document's sums: From (8). -/
namespace Go.Proofs.YtpeefmbdhkfhmaaGreatDoor.Kg
open Go Go.RowKit Go.Shelf Go.ChangeShapes Go.WideShapes Go.ChangeAt Go.Maps
set_option linter.unusedVariables false
set_option linter.unusedSimpArgs false
set_option maxRecDepth 100000
set_option maxHeartbeats 8000000
attribute [local go_sem ↓] ld47_is
theorem ld38 {W : World} {b o : Nat} {x : Bl} (h : W.rangeAt b o x.vals) : (ld47 (.pointer (some ⟨b, o, none⟩))).run Tryz.prog W = .ok (.agg #[.string x.acc, .int .i64 x.own, .int .i64 x.rol]) W :=
  run_loadAt_mid (P := Tryz.prog) _ b o 38 x.vals _ h Tryz.underlying38 rfl size47
/-- what the document's From leaves -/
def FOut (W : World) (X : List Bl) (e : Ending) (w' : World) : Prop :=
  Below W.heap.size W w' ∧ ((¬ Good X ∧ e = .returned (.tuple #[.pointer none, .int .i64 80])) ∨ (Good X ∧ ∃ d S, e = .returned (.tuple #[.pointer (some ⟨d, 0, none⟩), .int .i64 0]) ∧ Rd w' d S (nmB X) (owB X) ∧ ∀ q, S q → W.heap.size ≤ q))
theorem rfrom_any {W : World} {p : Option Addr} {c : Nat} {X : List Bl} (hL : Lies kB W p X) (hS : Sml (nmB X)) (hi64 : ∀ x ∈ X, -9223372036854775808 ≤ x.own ∧ x.own ≤ 9223372036854775807) :
    Calls Tryz.prog 8 #[.slice p X.length c] W fun e w' => FOut W X e w' := by
  obtain ⟨n, hn⟩ : ∃ n, n = X.length := ⟨_, rfl⟩
  have hnb : n ≤ 1000000 := by have := hS.few; unfold nmB at this; rw [List.length_map] at this; omega
  have dN := hide (rnew_any W)
  have HN := hide hn; have HL := hide hL; have HS := hide hS; have HI := hide hi64
  have hst := st47
  have hsh := sh47
  have heg := eg47
  rw [← hn]
  clear hn hL hS hi64
  go_enter Tryz.func8, Tryz.ntmps8
  go_wp2_with fail
  refine (unhide dN).mono ?_
  rintro e w1 ⟨rfl, hRd, hb1⟩
  have HRD := hide hRd; have HB1 := hide hb1
  clear hRd hb1 dN
  go_upto_region 4 with fail
  go_loopw [5, 6] (fun v5 v6 wr => ∃ (i : Nat) (p5 : Option Addr) (c5 : Nat), v6 = .int .i64 i ∧ v5 = .slice p5 i c5 ∧ i ≤ n ∧ Hid (Ml kP w1 wr v5 ((X.take i).map rwB))) (fun _ v6 _ => n - (intOf v6).toNat)
  case atStart => exact ⟨0, none, 0, rfl, rfl, by omega, Ml.nil _ (Below.refl _ _)⟩
  case round =>
    obtain ⟨i, p5, c5, rfl, rfl, hi, hrel⟩ := hrel
    have hml := unhide hrel
    have hlen : ((X.take i).map rwB).length = i := by rw [List.length_map, List.length_take, ← unhide HN]; omega
    have hbW : Below W.heap.size W wr := (unhide HB1).trans (hml.bel.mono (unhide HB1).size)
    by_cases hlt : i < n
    · have hiX : i < X.length := by rw [← unhide HN]; exact hlt
      obtain ⟨b, off, e, hbl, hr⟩ := (unhide HL).2 i hiX
      obtain ⟨x, hx⟩ : ∃ x, x = X[i] := ⟨_, rfl⟩
      rw [← hx] at hr
      have g0 : W.cell? ⟨b, off + i * 3, none⟩ = some (.string x.acc) := hr 0 _ rfl
      have g1 : W.cell? ⟨b, off + i * 3 + 1, none⟩ = some (.int .i64 x.own) := hr 1 _ rfl
      have tk : (X.take (i + 1)).map rwB = (X.take i).map rwB ++ [rwB x] := by rw [List.take_succ_eq_append_getElem hiX, List.map_append, hx]; rfl
      have hI : (i : Int) < (n : Int) := by omega
      have hI0 : (0 : Int) ≤ (i : Int) := by omega
      obtain ⟨Y, hY⟩ : ∃ Y, Y = wr.drew := ⟨_, rfl⟩
      have bY : Below W.heap.size W Y := by rw [hY]; exact below_drewN hbW 1
      have mY : Ml kP w1 Y (.slice p5 i c5) ((X.take i).map rwB) := by rw [hY]; exact hml.below (below_drewN (Below.refl _ _) 1)
      have y0 := keep1 bY hbl g0
      have y1 := keep1 bY hbl g1
      have y0a : (Y.alloc (.cells #[.int .i64 0, .int .i64 0, .int .i64 0, .int .i64 0, .string ⟨#[]⟩, .string x.acc, .int .i64 x.own, .string ⟨#[]⟩, .string ⟨#[]⟩] 74)).cell? ⟨b, off + i * 3, none⟩ = some (.string x.acc) := keep1 (bal bY _) hbl g0
      have y1a : (Y.alloc (.cells #[.int .i64 0, .int .i64 0, .int .i64 0, .int .i64 0, .string ⟨#[]⟩, .string x.acc, .int .i64 x.own, .string ⟨#[]⟩, .string ⟨#[]⟩] 74)).cell? ⟨b, off + i * 3 + 1, none⟩ = some (.int .i64 x.own) := keep1 (bal bY _) hbl g1
      obtain ⟨p8, c8, w8, hr8, hm8⟩ := mY.more kP_ok (by rw [hlen]; omega) (rwB x) #[.int .i64 0, .int .i64 0, .int .i64 0, .int .i64 0, .string ⟨#[]⟩, .string x.acc, .int .i64 x.own, .string ⟨#[]⟩, .string ⟨#[]⟩] rfl 66 74
      rw [hlen] at hr8 hm8
      rw [← tk] at hm8
      have b8 : Below W.heap.size W w8 := (unhide HB1).trans (hm8.bel.mono (unhide HB1).size)
      have z0 := keep1 b8 hbl g0
      have z1 := keep1 b8 hbl g1
      have HR8 := hide hr8; have HM8 := hide hm8; have HB8 := hide b8
      have HNX : Hid (∀ j (hj : j < X.length), i = j + 1 → Good X → (X[j]'hj).acc.data.toList < x.acc.data.toList) := fun j hj e hg => by
        subst e
        rw [hx]
        exact good_next hg hiX
      have HPREV : Hid (∀ j (hj : j < X.length), w8.cell? ⟨b, off + j * 3, none⟩ = some (.string (X[j]'hj).acc)) := fun j hj => by
        obtain ⟨b', off', e', hbl', hr'⟩ := (unhide HL).2 j hj
        rw [e] at e'
        injection e' with e'
        injection e' with e1 e2 e3
        subst e1 e2
        exact keep1 b8 hbl (hr' 0 _ rfl)
      have HXL : Hid (n = X.length) := unhide HN
      subst e
      clear hr hiX hx tk hrel hml hbW hlen bY mY hr8 hm8 b8 g0 g1 hbl
      go_upto_region 6 with fail
      refine wp_region_last (n := 14) (S := fun X => X.cell? ⟨b, off + i * 3, none⟩ = some (.string x.acc) ∧ X.cell? ⟨b, off + i * 3 + 1, none⟩ = some (.int .i64 x.own)) (by kernel_rfl) (by rw [← hY]; exact ⟨y0, y1⟩) (fun hHeld => ?_)
      rw [← hY] at hHeld ⊢
      clear hY
      refine tkW 0 ?_; refine tkW 1 ?_; refine tkW 2 ?_; refine tkW 3 ?_; refine tkW 4 ?_; refine tkS 5 ?_; refine tkW 6 ?_; refine tkW 7 ?_; refine tkW 8 ?_; refine tkW 9 ?_; refine tkS 10 ?_; refine tkW 11 ?_
      refine wpAnyL_one (i := 12) (by kernel_rfl) rfl (fun KK hK => ?_)
      go_simp
      refine hK.out _ _ ⟨y0a, y1a⟩ (fun hHeld => ?_)
      clear hK KK
      refine wpAnyL_one (i := 13) (by kernel_rfl) rfl (fun KK hK => ?_)
      refine step_append_run _ (by rfl) _ _ 66 (by rfl) _ _ _ _ (by rfl) (by rfl) (unhide HR8) ?_
      simp only [Act.put, List.setIfInBounds_toArray]
      refine hK.out _ _ ⟨z0, z1⟩ (fun hHeld => ?_)
      clear hK KK hHeld
      refine wpAnyL_past (i := 14) (by kernel_rfl) rfl (by kernel_rfl) (fun KK hK => ?_)
      go_simp
      refine hK.out _ _ ?_
      clear hK KK
      refine wpAnyL_done (by kernel_rfl) ?_
      by_cases hi0 : i = 0
      · have hgt : ¬ (0 : Int) < (i : Int) := by omega
        have HQ : Hid (∀ m, Ml kP w1 (w8.drewN m) (.slice p8 (i + 1) c8) ((X.take (i + 1)).map rwB)) := fun m => (unhide HM8).below (below_drewN (Below.refl _ _) m)
        have hN2 : ¬ 0 < i := by omega
        have hD2 : decide (0 < i) = false := decide_eq_false hN2
        have hD3 : decide ((0 : Int) < (i : Int)) = false := decide_eq_false hgt
        first
        | (clear hi0
           go_wp2_with fail
           go_quiet (fail)
           go_wp2_with fail
           exact ⟨⟨i + 1, p8, c8, by go_num, rfl, by omega, unhide HQ _⟩, by simp [intOf]; omega⟩)
        | (clear hgt hN2 hD2 hD3
           subst hi0
           go_wp2_with fail
           go_quiet (fail)
           go_wp2_with fail
           exact ⟨⟨0 + 1, p8, c8, by go_num, rfl, by omega, unhide HQ _⟩, by simp [intOf]; omega⟩)
        | (clear hgt hN2 hD2 hD3
           subst hi0
           go_wp2_with fail
           refine wp_region_quiet_below (by kernel_rfl) (by kernel_rfl) ?_
           repeat (go_big_quiet_step (fail))
           refine wpQuiet_nil ?_
           rintro _ ⟨P, rfl⟩
           go_wp2_with fail
           exact ⟨⟨0 + 1, p8, c8, by go_num, rfl, by omega, (unhide HM8).below P.h⟩, by simp [intOf]; omega⟩)
      · obtain ⟨j, hj⟩ : ∃ j, j = i - 1 := ⟨_, rfl⟩
        have hij : i = j + 1 := by omega
        have hjX : j < X.length := by rw [← unhide HXL]; omega
        have z2 := unhide HPREV j hjX
        obtain ⟨x', hx'⟩ : ∃ x', x' = X[j] := ⟨_, rfl⟩
        have HN9 : Hid (Good X → x'.acc.data.toList < x.acc.data.toList) := fun hg => by rw [hx']; exact unhide HNX j hjX hij hg
        rw [← hx'] at z2
        have hlt9 := str_lt x'.acc x.acc
        have hgt : (0 : Int) < (i : Int) := by omega
        have hwr : IntKind.i64.wrap ((i : Int) - 1) = (j : Int) := by rw [IntKind.wrap_i64]; omega
        have hJ0 : (0 : Int) ≤ (j : Int) := by omega
        have hJ : (j : Int) < (n : Int) := by omega
        have hgN : 0 < i := by omega
        have hD2 : decide (0 < i) = true := decide_eq_true hgN
        have hD3 : decide ((0 : Int) < (i : Int)) = true := decide_eq_true hgt
        have HQ : Hid (∀ m, Ml kP w1 (w8.drewN m) (.slice p8 (i + 1) c8) ((X.take (i + 1)).map rwB)) := fun m => (unhide HM8).below (below_drewN (Below.refl _ _) m)
        clear hj hij hjX hx' hi0
        clear hlt9
        by_cases hxx : x'.acc.data.toList < x.acc.data.toList
        · have hl1 : Op.bytesLess x.acc.toList x'.acc.toList = false := by rw [str_lt, decide_eq_false (fun h => by_irr _ (by_trans hxx h))]
          have hl2 : (x.acc.toList == x'.acc.toList) = false := str_ne (fun e => by rw [e] at hxx; exact by_irr _ hxx)
          clear hxx
          go_wp2_with fail
          go_quiet (fail)
          go_wp2_with fail
          exact ⟨⟨i + 1, p8, c8, by go_num, rfl, by omega, unhide HQ _⟩, by simp [intOf]; omega⟩
        · have HO2 : Hid (∀ m, FOut W X (.returned (.tuple #[.pointer none, .int .i64 80])) (w8.drewN m)) := fun m => ⟨below_drewN (unhide HB8) m, .inl ⟨fun hg => hxx (unhide HN9 hg), rfl⟩⟩
          rcases by_tri x.acc.data.toList x'.acc.data.toList with h | h | h
          · have hl1 : Op.bytesLess x.acc.toList x'.acc.toList = true := by rw [str_lt, decide_eq_true h]
            clear hxx h
            go_wp2_with fail
            go_quiet (fail)
            go_wp2_with fail
            go_ret2
            exact unhide HO2 _
          · have e : x.acc = x'.acc := ba_ext.1 h
            have hl1 : Op.bytesLess x.acc.toList x'.acc.toList = false := by rw [str_lt, decide_eq_false (by rw [e]; exact by_irr _)]
            have hl2 : (x.acc.toList == x'.acc.toList) = true := by rw [e]; simp
            clear hxx h e
            go_wp2_with fail
            go_quiet (fail)
            go_wp2_with fail
            go_ret2
            exact unhide HO2 _
          · exact absurd h hxx
    · have hin : i = n := by omega
      have hI : ¬ (i : Int) < (n : Int) := by omega
      have eX : X.take i = X := by rw [hin, unhide HN, List.take_length]
      rw [eX] at hml hlen
      have hLR : Lies kP wr p5 (X.map rwB) := own_lies kP_ok hlen (by have h := hml.row; rw [hlen] at h; exact h)
      have hRr := (unhide HRD).below hml.bel
      have dA := hide (rapply_any (c := c5) hRr hLR (by rw [hlen]; simp; omega) (fun r hr => by
        obtain ⟨y, hy, rfl⟩ := List.mem_map.1 hr
        have := (unhide HS).short y.acc (List.mem_map.2 ⟨y, hy, rfl⟩)
        show y.acc.size < _
        omega) (fun r hr => by
        obtain ⟨y, hy, rfl⟩ := List.mem_map.1 hr
        exact unhide HI y hy))
      rw [hlen] at dA
      have HBW := hide hbW; have HLEN := hide hlen
      have HOKS : Hid ((∀ r ∈ X.map rwB, okP r) ↔ ∀ x ∈ X, okP (rwB x)) := by
        show _ ↔ _
        simp
      clear hrel hml hlen eX hLR hRr hbW
      have HIN := hide hin
      clear hin
      go_wp2_with fail
      refine (unhide dA).mono ?_
      rintro e w2 hO
      unfold ROut at hO
      rw [List.nil_append, List.nil_append, rows_names, rows_owns, unhide HOKS] at hO
      rcases hO with ⟨hno, rfl, hb2⟩ | ⟨hok, hno, rfl, hb2⟩ | ⟨hok, hsid, rfl, S2, hR2, hfr2, hS2⟩
      · have HO2 : Hid (∀ m, FOut W X (.returned (.tuple #[.pointer none, .int .i64 80])) (w2.drewN m)) := fun m => ⟨below_drewN ((unhide HBW).trans (hb2.mono (unhide HBW).size)) m, .inl ⟨fun hg => hno hg.1, rfl⟩⟩
        clear hno hb2
        go_wp2_with fail
        go_ret2
        exact unhide HO2 0
      · have HO2 : Hid (∀ m, FOut W X (.returned (.tuple #[.pointer none, .int .i64 80])) (w2.drewN m)) := fun m => ⟨below_drewN ((unhide HBW).trans (hb2.mono (unhide HBW).size)) m, .inl ⟨fun hg => hno hg.2.1, rfl⟩⟩
        clear hno hb2 hok
        go_wp2_with fail
        go_ret2
        exact unhide HO2 0
      · have hb2 : Below W.heap.size W w2 := (unhide HBW).trans (hfr2.toBelow (unhide HBW).size (fun q hq => by rw [hq]; exact Nat.le_refl _))
        have hnew : ∀ q, S2 q → W.heap.size ≤ q := fun q hq => by
          rcases hS2 q hq with h | h
          · rw [h]; exact Nat.le_refl _
          · exact Nat.le_trans (unhide HBW).size h
        have dS := hide (rstate_any hR2 (unhide HS))
        obtain ⟨T, hT⟩ : ∃ T, T = stB (nmB X) (owB X) (stN (nmB X) (owB X) (accs (nmB X))) := ⟨_, rfl⟩
        rw [← hT] at dS
        obtain ⟨t, ht⟩ : ∃ t, t = T.length := ⟨_, rfl⟩
        rw [← ht] at dS
        have HGD : Hid (Good X ↔ T = X) := ⟨fun h => by rw [hT]; exact h.2.2, fun h => ⟨hok, hsid, by rw [← hT]; exact h⟩⟩
        have HR2 := hide hR2; have HB2 := hide hb2; have HNEW := hide hnew; have HT := hide ht
        clear hok hsid hR2 hfr2 hS2 hb2 hnew hT ht
        go_upto_region 13 with (first | (go_at_call 20; refine (unhide dS).mono ?_; rintro e w3 ⟨p3, c3, rfl, hm3⟩))
        have hb3 : Below W.heap.size W w3 := (unhide HB2).trans (hm3.bel.mono (unhide HB2).size)
        have HB3 := hide hb3
        have HR3 := hide ((unhide HR2).below hm3.bel)
        have HL3 : Hid (Lies kB w3 p3 T) := own_lies kB_ok (unhide HT).symm (by have h := hm3.row; rw [← unhide HT] at h; exact h)
        have HLX := hide ((unhide HL).below hb3)
        clear hm3 hb3 dS
        by_cases htn : t = n
        · subst htn
          go_upto_region 16 with fail
          go_loopw [9] (fun v9 wr => ∃ (k m : Nat), v9 = .int .i64 k ∧ k ≤ t ∧ Hid (wr = w3.drewN m ∧ T.take k = X.take k)) (fun v9 _ => t - (intOf v9).toNat)
          case atStart => exact ⟨0, 0, rfl, by omega, rfl, rfl⟩
          case round =>
            obtain ⟨k, m, rfl, hk, hrel⟩ := hrel
            obtain ⟨hw, hpre⟩ := unhide hrel
            have HW := hide hw
            clear hw
            by_cases hkt : k < t
            · have hkT : k < T.length := by rw [← unhide HT]; exact hkt
              have hkX : k < X.length := by rw [← unhide HN]; exact hkt
              obtain ⟨ba, oa, ea, _, ra⟩ := (unhide HL3).2 k hkT
              obtain ⟨bb, ob, eb, _, rb⟩ := (unhide HLX).2 k hkX
              obtain ⟨ya, hya⟩ : ∃ y, y = T[k] := ⟨_, rfl⟩
              obtain ⟨yb, hyb⟩ : ∃ y, y = X[k] := ⟨_, rfl⟩
              rw [← hya] at ra
              rw [← hyb] at rb
              subst ea eb
              have hKI : (k : Int) < (t : Int) := by omega
              have hK0 : (0 : Int) ≤ (k : Int) := by omega
              have la : ∀ d', (ld47 (.pointer (some ⟨ba, oa + k * 3, none⟩))).run Tryz.prog (wr.drewN d') = .ok (.agg #[.string ya.acc, .int .i64 ya.own, .int .i64 ya.rol]) (wr.drewN d') := fun d' => by rw [unhide HW]; exact ld38 (x := ya) ra
              have lb : ∀ d', (ld47 (.pointer (some ⟨bb, ob + k * 3, none⟩))).run Tryz.prog (wr.drewN d') = .ok (.agg #[.string yb.acc, .int .i64 yb.own, .int .i64 yb.rol]) (wr.drewN d') := fun d' => by rw [unhide HW]; exact ld38 (x := yb) rb
              by_cases hyy : ya = yb
              · have heq : ∀ w, (Op.equalIn 10000 38 (.agg #[.string ya.acc, .int .i64 ya.own, .int .i64 ya.rol]) (.agg #[.string yb.acc, .int .i64 yb.own, .int .i64 yb.rol])).run Tryz.prog w = .ok true w := fun w => by rw [hyy]; exact eq47_same _ _ _ w
                have HPRE : Hid (T.take (k + 1) = X.take (k + 1)) := by
                  show _ = _
                  rw [List.take_succ_eq_append_getElem hkT, List.take_succ_eq_append_getElem hkX, hpre, ← hya, ← hyb, hyy]
                clear hrel hpre hkT hkX hya hyb hyy ra rb
                go_wp2_with fail
                go_quiet (fail)
                go_wp2_with fail
                refine ⟨⟨k + 1, m + nq, by go_num, by omega, ?_, unhide HPRE⟩, by simp [intOf]; omega⟩
                rw [unhide HW, drew_two]
              · have heq : ∀ w, (Op.equalIn 10000 38 (.agg #[.string ya.acc, .int .i64 ya.own, .int .i64 ya.rol]) (.agg #[.string yb.acc, .int .i64 yb.own, .int .i64 yb.rol])).run Tryz.prog w = .ok false w := eq38_ne hyy
                have HO2 : Hid (∀ d', FOut W X (.returned (.tuple #[.pointer none, .int .i64 80])) (wr.drewN d')) := fun d' => ⟨below_drewN (by rw [unhide HW]; exact below_drewN (unhide HB3) m) d', .inl ⟨fun hg => hyy (by
                  have := (unhide HGD).1 hg
                  rw [hya, hyb]
                  simp only [this]), rfl⟩⟩
                clear hrel hpre hkT hkX hya hyb hyy ra rb
                go_wp2_with fail
                go_quiet (fail)
                go_wp2_with fail
                go_ret2
                exact unhide HO2 _
            · have hkt' : ¬ (k : Int) < (t : Int) := by omega
              have hkk : k = t := by omega
              have HO2 : Hid (FOut W X (.returned (.tuple #[.pointer (some ⟨W.heap.size, 0, none⟩), .int .i64 0])) wr) := by
                rw [unhide HW]
                refine ⟨below_drewN (unhide HB3) m, .inr ⟨(unhide HGD).2 ?_, _, _, rfl, (unhide HR3).below (below_drewN (Below.refl _ _) m), unhide HNEW⟩⟩
                have e1 : T.take k = T := by rw [hkk, unhide HT, List.take_length]
                have e2 : X.take k = X := by rw [hkk, unhide HN, List.take_length]
                rw [← e1, hpre, e2]
              clear hrel hpre
              go_wp2_with fail
              go_ret2
              exact unhide HO2
        · have hne : ((t : Int) == (n : Int)) = false := by simp; omega
          have HO2 : Hid (FOut W X (.returned (.tuple #[.pointer none, .int .i64 80])) w3) := ⟨unhide HB3, .inl ⟨fun hg => htn (by rw [unhide HT, (unhide HGD).1 hg, unhide HN]), rfl⟩⟩
          go_wp2_with fail
          go_ret2
          exact unhide HO2
end Go.Proofs.YtpeefmbdhkfhmaaGreatDoor.Kg
