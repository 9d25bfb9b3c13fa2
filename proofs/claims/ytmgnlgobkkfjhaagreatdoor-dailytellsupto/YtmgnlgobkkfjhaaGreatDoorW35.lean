import Derived.Test.YtmgnlgobkkfjhaaGreatDoorW34
/- DailyTells (3), DailyAll (4). -/
namespace Go.Proofs.YtmgnlgobkkfjhaaGreatDoor.Kg
open Go Go.RowKit Go.Shelf Go.ChangeShapes Go.WideShapes Go.ChangeAt Go.Maps
set_option linter.unusedVariables false
set_option linter.unusedSimpArgs false
set_option maxRecDepth 100000
set_option maxHeartbeats 8000000

theorem ActsIn.below {W W' : World} {p : Option Addr} {L : List ActV} (h : ActsIn W p L) (hb : Below W.heap.size W W') : ActsIn W' p L := fun k hk => by
  obtain ⟨b, off, e, hl, hr⟩ := h k hk
  exact ⟨b, off, e, Nat.lt_of_lt_of_le hl hb.size, fun j u hu => keep1 hb hl (hr j u hu)⟩
theorem ActOk.below {W W' : World} {a : ActV} (h : ActOk W a) (hb : Below W.heap.size W W') : ActOk W' a := ⟨h.n0, h.li.below hb, h.am⟩

theorem walk3 {W : World} (hP : Pw W) {pX pA : Option Addr} {cX cA : Nat} {X : List Dq} {A : List ActV} (hX0 : pX = none → cX = 0) (hLX : Lies kQ W pX X) (hXo : ∀ y ∈ X, -9223372036854775808 ≤ y.chg ∧ y.chg ≤ 9223372036854775807) (hA : ActsIn W pA A) (hAo : ∀ a ∈ A, ActOk W a) (hsum : (X.map wDq).sum + (A.map wAc).sum ≤ 1048576)  :
    Calls Tryz.prog 3 #[.agg #[.slice pX X.length cX, .slice pA A.length cA]] W fun e w' => e = .returned (.bool true) ∧ Below W.heap.size W w' := by
  have hb0 : Below W.heap.size W (W.alloc (.cells #[.slice pX X.length cX, .slice pA A.length cA] 25)) := bal (Below.refl _ _) _
  have d5 := hide (plays_any (cA := cA) (hP.below hb0) hX0 (hLX.below hb0) hXo (hA.below hb0) (fun a ha => (hAo a ha).below hb0) hsum false)
  have HB0 := hide hb0
  clear hP hX0 hLX hXo hA hAo hsum hb0
  go_enter Tryz.func3, Tryz.ntmps3
  go_wp2_with fail
  refine (unhide d5).mono ?_
  rintro e w1 ⟨rfl, hb⟩
  have HB : Hid (Below W.heap.size W w1) := (unhide HB0).trans (hb.mono (unhide HB0).size)
  clear hb
  go_wp2_with fail
  go_ret
  exact ⟨rfl, unhide HB⟩

theorem walk4 {W : World} (hP : Pw W) {pX pA : Option Addr} {cX cA : Nat} {X : List Dq} {A : List ActV} (hX0 : pX = none → cX = 0) (hLX : Lies kQ W pX X) (hXo : ∀ y ∈ X, -9223372036854775808 ≤ y.chg ∧ y.chg ≤ 9223372036854775807) (hA : ActsIn W pA A) (hAo : ∀ a ∈ A, ActOk W a) (hsum : (X.map wDq).sum + (A.map wAc).sum ≤ 1048576)  :
    Calls Tryz.prog 4 #[.agg #[.slice pX X.length cX, .slice pA A.length cA]] W fun e w' => e = .returned (.bool true) ∧ Below W.heap.size W w' := by
  have hb0 : Below W.heap.size W (W.alloc (.cells #[.slice pX X.length cX, .slice pA A.length cA] 25)) := bal (Below.refl _ _) _
  have d5 := hide (plays_any (cA := cA) (hP.below hb0) hX0 (hLX.below hb0) hXo (hA.below hb0) (fun a ha => (hAo a ha).below hb0) hsum true)
  have HB0 := hide hb0
  clear hP hX0 hLX hXo hA hAo hsum hb0
  go_enter Tryz.func4, Tryz.ntmps4
  go_wp2_with fail
  refine (unhide d5).mono ?_
  rintro e w1 ⟨rfl, hb⟩
  have HB : Hid (Below W.heap.size W w1) := (unhide HB0).trans (hb.mono (unhide HB0).size)
  clear hb
  go_wp2_with fail
  go_ret
  exact ⟨rfl, unhide HB⟩
end Go.Proofs.YtmgnlgobkkfjhaaGreatDoor.Kg
