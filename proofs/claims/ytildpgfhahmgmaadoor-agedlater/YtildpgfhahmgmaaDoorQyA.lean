/- aged: of (39), Now (16). -/
import Derived.Test.YtildpgfhahmgmaaDoorIvA
namespace Go.Proofs.YtildpgfhahmgmaaDoor
open Go Go.Shelf Go.ChangeShapes Go.WideShapes Go.ChangeAt Go.RowKit Go.Maps
set_option linter.unusedVariables false
/-- an account's invoices -/
def ofC (C : List Cl) (k : List UInt8) : List Cl := C.filter fun c => decide (c.acc.data.toList = k)
/-- what is open of an account at a day, of one age -/
def ageS (C : List Cl) (A : List Al) (k : List UInt8) (t : Int) (j : Nat) : Int := (ofC C k).foldr (fun c x => con (shr c (ptsOf A c.key.data.toList) t) j + x) 0
theorem sumL_map {β : Type} (l : List Nat) (f : Nat → β) (g : β → Int) : (l.map f).foldr (fun c x => g c + x) 0 = sumL l (fun p => g (f p)) := by
  induction l with
  | nil => rfl
  | cons p l ih => rw [List.map_cons, List.foldr_cons, ih]; rfl
theorem Inv0.ofC {G : Gh} (h : Inv0 G) (k : List UInt8) : ofC (G.ps.map G.cl) k = (G.ls k).map G.cl := by
  unfold Go.Proofs.YtildpgfhahmgmaaDoor.ofC
  rw [h.ls, List.filter_map]
  rfl
theorem Inv0.ageS {G : Gh} (h : Inv0 G) (k : List UInt8) (t : Int) (j : Nat) : ageS (G.ps.map G.cl) G.al k t j = sumL (G.ls k) (fun p => con (shr (G.cl p) (G.pt p) t) j) := by
  unfold Go.Proofs.YtildpgfhahmgmaaDoor.ageS
  rw [h.ofC, sumL_map (G.ls k) G.cl (fun c => con (shr c (ptsOf G.al c.key.data.toList) t) j)]
  exact sumL_congr fun p hp => by rw [h.pt p (h.ls_mem hp).1]
theorem Inv.now {G : Gh} (h : Inv G) (k : List UInt8) (j : Nat) : G.nw k j = ageS (G.ps.map G.cl) G.al k (1 + G.gone) j := by
  rw [h.nw, h.toInv0.ageS]
  exact sumL_congr fun p hp => by rw [h.sh p (h.toInv0.ls_mem hp).1]
def ofV (G : Gh) (k : List UInt8) (t : Int) : Value := if dayB t = true ∧ G.qa k ≠ none then G.av k else .slice none 0 0
def ofL (G : Gh) (k : List UInt8) (t : Int) : List Nat := if dayB t = true then G.ls k else []
theorem neqn89 (w : World) : (binOp .neq 89 (.pointer none) (.pointer none)).run Tryd.prog w = .ok (.bool false) w := by kernel_rfl
set_option maxRecDepth 100000 in
set_option maxHeartbeats 4000000 in
theorem of_any {W : World} {d : Nat} {G : Gh} (hR : Raw W d G) {s : ByteArray} (hs : s.size ≤ maxLen) (t : Int) :
    Calls Tryd.prog 39 #[ptr d, .string s, .int .i64 t] W fun e w' => e = .returned (ofV G s.data.toList t) ∧ w' = W := by
  have hlk := hR.lookA hs
  have c2 : W.cell? ⟨d, 2, none⟩ = some (.map G.ma) := by rw [cell_at hR.ob]; rfl
  have d1 := hide (isDay_any t)
  have hnn := neqn89
  unfold ptr
  cases hq : G.qa s.data.toList with
  | none =>
    rw [hq] at hlk
    unfold optp at hlk
    have HF : Hid (ofV G s.data.toList t = .slice none 0 0) := by show _ = _; unfold ofV; rw [if_neg (fun h => h.2 hq)]
    clear hR hq
    go_enter Tryd.func39, Tryd.ntmps39
    go_wp2_with fail
    go_ret
    exact ⟨by rw [unhide HF]; rfl, rfl⟩
  | some q =>
    rw [hq] at hlk
    unfold optp ptr at hlk
    have q0 : W.cell? ⟨q, 0, none⟩ = some (G.av s.data.toList) := by rw [cell_at (hR.ac _ q hq)]; rfl
    cases h1 : dayB t with
    | false =>
      rw [h1] at d1
      have HF : Hid (ofV G s.data.toList t = .slice none 0 0) := by show _ = _; unfold ofV; rw [if_neg (fun h => by rw [h1] at h; cases h.1)]
      clear hR hq h1
      go_enter Tryd.func39, Tryd.ntmps39
      go_wp2_with (first | (go_at_call 36; refine (unhide d1 _).mono ?_; rintro e w1 ⟨rfl, hw⟩; rw [hw]; clear hw w1))
      go_ret
      exact ⟨by rw [unhide HF]; rfl, rfl⟩
    | true =>
      rw [h1] at d1
      have HF : Hid (ofV G s.data.toList t = G.av s.data.toList) := by show _ = _; unfold ofV; rw [if_pos ⟨h1, ne_none hq⟩]
      clear hR hq h1
      go_enter Tryd.func39, Tryd.ntmps39
      go_wp2_with (first | (go_at_call 36; refine (unhide d1 _).mono ?_; rintro e w1 ⟨rfl, hw⟩; rw [hw]; clear hw w1))
      go_ret
      exact ⟨by rw [unhide HF]; rfl, rfl⟩
/-- what of hands out -/
theorem of_out {W : World} {d : Nat} {G : Gh} (hI : Inv0 G) (hR : Raw W d G) (k : List UInt8) (t : Int) : ∃ pp cc, ofV G k t = .slice pp (ofL G k t).length cc ∧ Lies kP W pp (ofL G k t) ∧ ∀ p ∈ ofL G k t, p ∈ G.ps ∧ G.key p = k := by
  unfold ofV ofL
  by_cases h1 : dayB t = true
  · rw [if_pos h1]
    by_cases h2 : G.qa k = none
    · rw [if_neg (fun h => h.2 h2), (hI.no h2).1]
      exact ⟨none, 0, rfl, Lies.nil _ _, fun p hp => by cases hp⟩
    · rw [if_pos ⟨h1, h2⟩]
      obtain ⟨q, hq⟩ := some_of h2
      have hr := hR.ar k q hq
      obtain ⟨pp, cc, e, _⟩ := row_slice hr
      rw [e] at hr
      exact ⟨pp, cc, e, own_lies kP_ok rfl hr, fun p hp => hI.ls_mem hp⟩
  · rw [if_neg h1, if_neg (fun h => h1 h.1)]
    exact ⟨none, 0, rfl, Lies.nil _ _, fun p hp => by cases hp⟩
def ag5 (f : Nat → Int) : Value := .agg #[.int .i64 (f 0), .int .i64 (f 1), .int .i64 (f 2), .int .i64 (f 3), .int .i64 (f 4)]
def ld39 (x : Value) : Sem Value := Instr.loadAt 39 x
theorem ld39_is (x : Value) : Instr.loadAt 39 x = ld39 x := rfl
def st39 (x y : Value) : Sem Unit := Instr.storeAt 39 x y
theorem st39_is (x y : Value) : Instr.storeAt 39 x y = st39 x y := rfl
theorem size39 : (Tryd.prog.info? 39).map (·.size) = some 5 := by kernel_rfl
def five (f : Nat → Int) : List Value := [.int .i64 (f 0), .int .i64 (f 1), .int .i64 (f 2), .int .i64 (f 3), .int .i64 (f 4)]
theorem run_ld39 {w : World} {b o : Nat} {f : Nat → Int} (h : w.rangeAt b o (five f)) : (ld39 (.pointer (some ⟨b, o, none⟩))).run Tryd.prog w = .ok (ag5 f) w :=
  run_loadAt_mid (P := Tryd.prog) w b o 39 (five f) _ h Tryd.underlying39 rfl size39
theorem run_st39 {w : World} {b o : Nat} (h : w.there b o 5) (f : Nat → Int) : (st39 (.pointer (some ⟨b, o, none⟩)) (ag5 f)).run Tryd.prog w = .ok () (w.setCells b o (five f)) :=
  run_storeAt_mid (P := Tryd.prog) w b o 39 #[.int .i64 (f 0), .int .i64 (f 1), .int .i64 (f 2), .int .i64 (f 3), .int .i64 (f 4)] h size39 (by simp [Value.oneCell'])
/-- a block of five numbers -/
def obj5 (f : Nat → Int) : Obj := .cells #[.int .i64 (f 0), .int .i64 (f 1), .int .i64 (f 2), .int .i64 (f 3), .int .i64 (f 4)] 39 (0, 0)
theorem there5 {w : World} {b : Nat} {f : Nat → Int} (h : w.heap[b]? = some (obj5 f)) : w.there b 0 5 := fun j hj => by
  unfold obj5 at h
  have : j = 0 ∨ j = 1 ∨ j = 2 ∨ j = 3 ∨ j = 4 := by omega
  rcases this with rfl | rfl | rfl | rfl | rfl <;> simp [World.cell?, World.frozen?, h]
theorem set5 {w : World} {b : Nat} {f : Nat → Int} (h : w.heap[b]? = some (obj5 f)) (g : Nat → Int) : (w.setCells b 0 (five g)).heap[b]? = some (obj5 g) := by
  unfold obj5 at h
  show (((((w.setCell ⟨b, 0, none⟩ _).setCell ⟨b, 0 + 1, none⟩ _).setCell ⟨b, 0 + 1 + 1, none⟩ _).setCell ⟨b, 0 + 1 + 1 + 1, none⟩ _).setCell ⟨b, 0 + 1 + 1 + 1 + 1, none⟩ _).heap[b]? = _
  rw [Go.heap_setCell_same _ _ _ _ _ _ (Go.heap_setCell_same _ _ _ _ _ _ (Go.heap_setCell_same _ _ _ _ _ _ (Go.heap_setCell_same _ _ _ _ _ _ (Go.heap_setCell_same _ _ _ _ _ _ h))))]
  rfl
theorem below5 {w : World} {B b : Nat} (hb : B ≤ b) (l : List Value) : ∀ (o : Nat) (a w : World), Below B a w → Below B a (w.setCells b o l) := by
  induction l with
  | nil => exact fun o a w h => h
  | cons v l ih => exact fun o a w h => ih (o + 1) a _ (h.setCell hb v)
attribute [local go_sem ↓] ld39_is st39_is
set_option maxRecDepth 100000 in
set_option maxHeartbeats 4000000 in
theorem now_raw {W : World} {d : Nat} {G : Gh} (hR : Raw W d G) (hI : Inv0 G) {s : ByteArray} (hs : s.size ≤ maxLen) :
    Calls Tryd.prog 16 #[ptr d, .string s] W fun e w' => e = .returned (ag5 (G.nw s.data.toList)) ∧ Below W.heap.size W w' := by
  obtain ⟨X, hX⟩ : ∃ X, X = W.alloc (obj5 fun _ => 0) := ⟨_, rfl⟩
  have hbX : Below W.heap.size W X := by rw [hX]; exact (Below.refl _ _).alloc (Nat.le_refl _) _
  have hRX := hR.below hbX
  have hr0 : X.heap[W.heap.size]? = some (obj5 fun _ => 0) := by rw [hX]; exact heap_new _ _
  have hlk := hRX.lookA hs
  have c2 : X.cell? ⟨d, 2, none⟩ = some (.map G.ma) := by rw [cell_at hRX.ob]; rfl
  obtain ⟨rb, hrb⟩ : ∃ rb, rb = W.heap.size := ⟨_, rfl⟩
  have hst := run_st39 (there5 hr0) (G.nw s.data.toList)
  have hs5 := set5 hr0 (G.nw s.data.toList)
  have hb5 := below5 (B := W.heap.size) (b := W.heap.size) (w := X) (Nat.le_refl _) (five (G.nw s.data.toList)) 0 W X hbX
  obtain ⟨Y, hY⟩ : ∃ Y, Y = X.setCells W.heap.size 0 (five (G.nw s.data.toList)) := ⟨_, rfl⟩
  rw [← hY] at hst hs5 hb5
  rw [← hrb] at hst hs5
  have hld := run_ld39 (w := Y) (b := rb) (o := 0) (f := G.nw s.data.toList) (fun i v hv => by
    rw [Nat.zero_add, cell_at hs5]; simpa [five] using hv)
  have hnn := neqn89
  unfold ptr
  have HX : Hid (X = W.alloc (obj5 fun _ => 0)) := hX
  have HRB := hide hrb
  cases hq : G.qa s.data.toList with
  | none =>
    have e0 : G.nw s.data.toList = fun _ => 0 := funext (hI.no hq).2
    rw [hq] at hlk
    unfold optp at hlk
    rw [e0] at hst hld hs5 ⊢
    have y0 : Y.cell? ⟨rb, 0, none⟩ = some (.int .i64 0) := by rw [cell_at hs5]; rfl
    have y1 : Y.cell? ⟨rb, 1, none⟩ = some (.int .i64 0) := by rw [cell_at hs5]; rfl
    have y2 : Y.cell? ⟨rb, 2, none⟩ = some (.int .i64 0) := by rw [cell_at hs5]; rfl
    have y3 : Y.cell? ⟨rb, 3, none⟩ = some (.int .i64 0) := by rw [cell_at hs5]; rfl
    have y4 : Y.cell? ⟨rb, 4, none⟩ = some (.int .i64 0) := by rw [cell_at hs5]; rfl
    have HB5 := hide hb5
    unfold obj5 at HX
    unfold ag5 at hst hld ⊢
    clear hR hRX hI hq hbX hr0 hb5 hX hrb e0 hY hs5
    go_enter Tryd.func16, Tryd.ntmps16
    go_upto_region 1 with fail
    rw [← unhide HX, ← unhide HRB]
    go_wp2_with fail
    refine bodyPost_ret (v := .agg #[.int .i64 0, .int .i64 0, .int .i64 0, .int .i64 0, .int .i64 0]) (by simp [results, Tryd.results16, go_sem, *]) rfl ⟨rfl, unhide HB5⟩
  | some q =>
    rw [hq] at hlk
    unfold optp ptr at hlk
    have hac := hRX.ac _ q hq
    have y0 : Y.cell? ⟨rb, 0, none⟩ = some (.int .i64 (G.nw s.data.toList 0)) := by rw [cell_at hs5]; rfl
    have y1 : Y.cell? ⟨rb, 1, none⟩ = some (.int .i64 (G.nw s.data.toList 1)) := by rw [cell_at hs5]; rfl
    have y2 : Y.cell? ⟨rb, 2, none⟩ = some (.int .i64 (G.nw s.data.toList 2)) := by rw [cell_at hs5]; rfl
    have y3 : Y.cell? ⟨rb, 3, none⟩ = some (.int .i64 (G.nw s.data.toList 3)) := by rw [cell_at hs5]; rfl
    have y4 : Y.cell? ⟨rb, 4, none⟩ = some (.int .i64 (G.nw s.data.toList 4)) := by rw [cell_at hs5]; rfl
    have hl5 := run_ld39 (w := X) (b := q) (o := 1) (f := G.nw s.data.toList) (fun i v hv => by
      rw [cell_at hac]
      unfold Gh.acV
      unfold five at hv
      have hi : i < 5 := (List.getElem?_eq_some_iff.1 hv).1
      have : i = 0 ∨ i = 1 ∨ i = 2 ∨ i = 3 ∨ i = 4 := by omega
      rcases this with rfl | rfl | rfl | rfl | rfl <;> simpa using hv)
    have HB5 := hide hb5
    unfold obj5 at HX
    unfold ag5 at hst hld hl5 ⊢
    clear hR hRX hI hq hbX hr0 hb5 hX hrb hY hs5 hac
    go_enter Tryd.func16, Tryd.ntmps16
    go_upto_region 1 with fail
    rw [← unhide HX, ← unhide HRB]
    go_wp2_with fail
    refine bodyPost_ret (v := .agg #[.int .i64 (G.nw s.data.toList 0), .int .i64 (G.nw s.data.toList 1), .int .i64 (G.nw s.data.toList 2), .int .i64 (G.nw s.data.toList 3), .int .i64 (G.nw s.data.toList 4)]) (by simp [results, Tryd.results16, go_sem, *]) rfl ⟨rfl, unhide HB5⟩
end Go.Proofs.YtildpgfhahmgmaaDoor
