import Derived.Test.YtfclknlpdcanpaaGreatDoorW13
import Derived.Test.YtfclknlpdcanpaaGreatDoorW01
import Derived.Sort.Walk0
import Derived.Sort.Statements
import Derived.Shelf.SlSortCmp.WholeK
import Derived.Ground.SlsfProg
import Derived.Test.YtfclknlpdcanpaaGreatDoorProg
/- aged: of (74), Now (16). -/
namespace Go.Proofs.YtfclknlpdcanpaaGreatDoor
open Go Go.Shelf Go.ChangeShapes Go.WideShapes Go.ChangeAt Go.RowKit Go.Maps
set_option linter.unusedVariables false
/-- an account's invoices -/
def ofC (C : List Cl) (k : List UInt8) : List Cl := C.filter fun c => decide (c.acc.data.toList = k)
/-- what is open of an account at a day, of one age -/
def ageS (C : List Cl) (A : List Al) (k : List UInt8) (t : Int) (j : Nat) : Int := (ofC C k).foldr (fun c x => con (shr c (ptsOf A c.key.data.toList) t) j + x) 0
theorem sumL_map {β : Type} (l : List Nat) (f : Nat → β) (g : β → Int) : (l.map f).foldr (fun c x => g c + x) 0 = sumL l (fun p => g (f p)) := by
  induction l with
  | nil => rfl
  | cons p l ih => rw [List.map_cons, List.foldr_cons, ih]; rfl
theorem Inv0.ofC {G : Gh} (h : Inv0 G) (k : List UInt8) : ofC (G.ps.map G.cl) k = (G.ls k).map G.cl := by
  unfold Go.Proofs.YtfclknlpdcanpaaGreatDoor.ofC
  rw [h.ls, List.filter_map]
  rfl
theorem Inv0.ageS {G : Gh} (h : Inv0 G) (k : List UInt8) (t : Int) (j : Nat) : ageS (G.ps.map G.cl) G.al k t j = sumL (G.ls k) (fun p => con (shr (G.cl p) (G.pt p) t) j) := by
  unfold Go.Proofs.YtfclknlpdcanpaaGreatDoor.ageS
  rw [h.ofC, sumL_map (G.ls k) G.cl (fun c => con (shr c (ptsOf G.al c.key.data.toList) t) j)]
  exact sumL_congr fun p hp => by rw [h.pt p (h.ls_mem hp).1]
theorem Inv.now {G : Gh} (h : Inv G) (k : List UInt8) (j : Nat) : G.nw k j = ageS (G.ps.map G.cl) G.al k (1 + G.gone) j := by
  rw [h.nw, h.toInv0.ageS]
  exact sumL_congr fun p hp => by rw [h.sh p (h.toInv0.ls_mem hp).1]
def ofV (G : Gh) (k : List UInt8) (t : Int) : Value := if dayB t = true ∧ G.qa k ≠ none then G.av k else .slice none 0 0
def ofL (G : Gh) (k : List UInt8) (t : Int) : List Nat := if dayB t = true then G.ls k else []
theorem neqn89 (w : World) : (binOp .neq 118 (.pointer none) (.pointer none)).run Tryz.prog w = .ok (.bool false) w := by kernel_rfl
set_option maxRecDepth 100000 in
set_option maxHeartbeats 4000000 in
theorem of_any {W : World} {d : Nat} {G : Gh} (hR : Raw W d G) {s : ByteArray} (hs : s.size ≤ maxLen) (t : Int) :
    Calls Tryz.prog 112 #[ptr d, .string s, .int .i64 t] W fun e w' => e = .returned (ofV G s.data.toList t) ∧ w' = W := by
  have hlk := hR.lookA hs
  have c2 : W.cell? ⟨d, 2, none⟩ = some (.map G.ma) := by rw [cell_at hR.ob]; rfl
  have d1 := hide (isDay_any t)
  have hnn := neqn89
  unfold ptr
  cases hq : G.qa s.data.toList with
  | none =>
    rw [hq] at hlk
    unfold optp at hlk
    have HF : Hid (ofV G s.data.toList t = .slice none 0 0) := by show _ = _; unfold ofV; rw [if_neg (fun h => h.2 hq)]
    clear hR hq
    go_enter Tryz.func112, Tryz.ntmps112
    go_wp2_with fail
    go_ret
    exact ⟨by rw [unhide HF]; rfl, rfl⟩
  | some q =>
    rw [hq] at hlk
    unfold optp ptr at hlk
    have q0 : W.cell? ⟨q, 0, none⟩ = some (G.av s.data.toList) := by rw [cell_at (hR.ac _ q hq)]; rfl
    cases h1 : dayB t with
    | false =>
      rw [h1] at d1
      have HF : Hid (ofV G s.data.toList t = .slice none 0 0) := by show _ = _; unfold ofV; rw [if_neg (fun h => by rw [h1] at h; cases h.1)]
      clear hR hq h1
      go_enter Tryz.func112, Tryz.ntmps112
      go_wp2_with (first | (go_at_call 101; refine (unhide d1 _).mono ?_; rintro e w1 ⟨rfl, hw⟩; rw [hw]; clear hw w1))
      go_ret
      exact ⟨by rw [unhide HF]; rfl, rfl⟩
    | true =>
      rw [h1] at d1
      have HF : Hid (ofV G s.data.toList t = G.av s.data.toList) := by show _ = _; unfold ofV; rw [if_pos ⟨h1, ne_none hq⟩]
      clear hR hq h1
      go_enter Tryz.func112, Tryz.ntmps112
      go_wp2_with (first | (go_at_call 101; refine (unhide d1 _).mono ?_; rintro e w1 ⟨rfl, hw⟩; rw [hw]; clear hw w1))
      go_ret
      exact ⟨by rw [unhide HF]; rfl, rfl⟩
/-- what of hands out -/
theorem of_out {W : World} {d : Nat} {G : Gh} (hI : Inv0 G) (hR : Raw W d G) (k : List UInt8) (t : Int) : ∃ pp cc, ofV G k t = .slice pp (ofL G k t).length cc ∧ Lies kP W pp (ofL G k t) ∧ ∀ p ∈ ofL G k t, p ∈ G.ps ∧ G.key p = k := by
  unfold ofV ofL
  by_cases h1 : dayB t = true
  · rw [if_pos h1]
    by_cases h2 : G.qa k = none
    · rw [if_neg (fun h => h.2 h2), (hI.no h2).1]
      exact ⟨none, 0, rfl, Lies.nil _ _, fun p hp => by cases hp⟩
    · rw [if_pos ⟨h1, h2⟩]
      obtain ⟨q, hq⟩ := some_of h2
      have hr := hR.ar k q hq
      obtain ⟨pp, cc, e, _⟩ := row_slice hr
      rw [e] at hr
      exact ⟨pp, cc, e, own_lies kP_ok rfl hr, fun p hp => hI.ls_mem hp⟩
  · rw [if_neg h1, if_neg (fun h => h1 h.1)]
    exact ⟨none, 0, rfl, Lies.nil _ _, fun p hp => by cases hp⟩
def ag5 (f : Nat → Int) : Value := .agg #[.int .i64 (f 0), .int .i64 (f 1), .int .i64 (f 2), .int .i64 (f 3), .int .i64 (f 4)]
def ld39 (x : Value) : Sem Value := Instr.loadAt 74 x
theorem ld39_is (x : Value) : Instr.loadAt 74 x = ld39 x := rfl
def st39 (x y : Value) : Sem Unit := Instr.storeAt 74 x y
theorem st39_is (x y : Value) : Instr.storeAt 74 x y = st39 x y := rfl
theorem size39 : (Tryz.prog.info? 74).map (·.size) = some 5 := by kernel_rfl
def five (f : Nat → Int) : List Value := [.int .i64 (f 0), .int .i64 (f 1), .int .i64 (f 2), .int .i64 (f 3), .int .i64 (f 4)]
theorem run_ld39 {w : World} {b o : Nat} {f : Nat → Int} (h : w.rangeAt b o (five f)) : (ld39 (.pointer (some ⟨b, o, none⟩))).run Tryz.prog w = .ok (ag5 f) w :=
  run_loadAt_mid (P := Tryz.prog) w b o 74 (five f) _ h Tryz.underlying74 rfl size39
theorem run_st39 {w : World} {b o : Nat} (h : w.there b o 5) (f : Nat → Int) : (st39 (.pointer (some ⟨b, o, none⟩)) (ag5 f)).run Tryz.prog w = .ok () (w.setCells b o (five f)) :=
  run_storeAt_mid (P := Tryz.prog) w b o 74 #[.int .i64 (f 0), .int .i64 (f 1), .int .i64 (f 2), .int .i64 (f 3), .int .i64 (f 4)] h size39 (by simp [Value.oneCell'])
/-- a block of five numbers -/
def obj5 (f : Nat → Int) : Obj := .cells #[.int .i64 (f 0), .int .i64 (f 1), .int .i64 (f 2), .int .i64 (f 3), .int .i64 (f 4)] 74 (0, 0)
theorem there5 {w : World} {b : Nat} {f : Nat → Int} (h : w.heap[b]? = some (obj5 f)) : w.there b 0 5 := fun j hj => by
  unfold obj5 at h
  have : j = 0 ∨ j = 1 ∨ j = 2 ∨ j = 3 ∨ j = 4 := by omega
  rcases this with rfl | rfl | rfl | rfl | rfl <;> simp [World.cell?, World.frozen?, h]
theorem set5 {w : World} {b : Nat} {f : Nat → Int} (h : w.heap[b]? = some (obj5 f)) (g : Nat → Int) : (w.setCells b 0 (five g)).heap[b]? = some (obj5 g) := by
  unfold obj5 at h
  show (((((w.setCell ⟨b, 0, none⟩ _).setCell ⟨b, 0 + 1, none⟩ _).setCell ⟨b, 0 + 1 + 1, none⟩ _).setCell ⟨b, 0 + 1 + 1 + 1, none⟩ _).setCell ⟨b, 0 + 1 + 1 + 1 + 1, none⟩ _).heap[b]? = _
  rw [Go.heap_setCell_same _ _ _ _ _ _ (Go.heap_setCell_same _ _ _ _ _ _ (Go.heap_setCell_same _ _ _ _ _ _ (Go.heap_setCell_same _ _ _ _ _ _ (Go.heap_setCell_same _ _ _ _ _ _ h))))]
  rfl
theorem below5 {w : World} {B b : Nat} (hb : B ≤ b) (l : List Value) : ∀ (o : Nat) (a w : World), Below B a w → Below B a (w.setCells b o l) := by
  induction l with
  | nil => exact fun o a w h => h
  | cons v l ih => exact fun o a w h => ih (o + 1) a _ (h.setCell hb v)
attribute [local go_sem ↓] ld39_is st39_is
set_option maxRecDepth 100000 in
set_option maxHeartbeats 4000000 in
theorem now_raw {W : World} {d : Nat} {G : Gh} (hR : Raw W d G) (hI : Inv0 G) {s : ByteArray} (hs : s.size ≤ maxLen) :
    Calls Tryz.prog 24 #[ptr d, .string s] W fun e w' => e = .returned (ag5 (G.nw s.data.toList)) ∧ Below W.heap.size W w' := by
  obtain ⟨X, hX⟩ : ∃ X, X = W.alloc (obj5 fun _ => 0) := ⟨_, rfl⟩
  have hbX : Below W.heap.size W X := by rw [hX]; exact (Below.refl _ _).alloc (Nat.le_refl _) _
  have hRX := hR.below hbX
  have hr0 : X.heap[W.heap.size]? = some (obj5 fun _ => 0) := by rw [hX]; exact heap_new _ _
  have hlk := hRX.lookA hs
  have c2 : X.cell? ⟨d, 2, none⟩ = some (.map G.ma) := by rw [cell_at hRX.ob]; rfl
  obtain ⟨rb, hrb⟩ : ∃ rb, rb = W.heap.size := ⟨_, rfl⟩
  have hst := run_st39 (there5 hr0) (G.nw s.data.toList)
  have hs5 := set5 hr0 (G.nw s.data.toList)
  have hb5 := below5 (B := W.heap.size) (b := W.heap.size) (w := X) (Nat.le_refl _) (five (G.nw s.data.toList)) 0 W X hbX
  obtain ⟨Y, hY⟩ : ∃ Y, Y = X.setCells W.heap.size 0 (five (G.nw s.data.toList)) := ⟨_, rfl⟩
  rw [← hY] at hst hs5 hb5
  rw [← hrb] at hst hs5
  have hld := run_ld39 (w := Y) (b := rb) (o := 0) (f := G.nw s.data.toList) (fun i v hv => by
    rw [Nat.zero_add, cell_at hs5]; simpa [five] using hv)
  have hnn := neqn89
  unfold ptr
  have HX : Hid (X = W.alloc (obj5 fun _ => 0)) := hX
  have HRB := hide hrb
  cases hq : G.qa s.data.toList with
  | none =>
    have e0 : G.nw s.data.toList = fun _ => 0 := funext (hI.no hq).2
    rw [hq] at hlk
    unfold optp at hlk
    rw [e0] at hst hld hs5 ⊢
    have y0 : Y.cell? ⟨rb, 0, none⟩ = some (.int .i64 0) := by rw [cell_at hs5]; rfl
    have y1 : Y.cell? ⟨rb, 1, none⟩ = some (.int .i64 0) := by rw [cell_at hs5]; rfl
    have y2 : Y.cell? ⟨rb, 2, none⟩ = some (.int .i64 0) := by rw [cell_at hs5]; rfl
    have y3 : Y.cell? ⟨rb, 3, none⟩ = some (.int .i64 0) := by rw [cell_at hs5]; rfl
    have y4 : Y.cell? ⟨rb, 4, none⟩ = some (.int .i64 0) := by rw [cell_at hs5]; rfl
    have HB5 := hide hb5
    unfold obj5 at HX
    unfold ag5 at hst hld ⊢
    clear hR hRX hI hq hbX hr0 hb5 hX hrb e0 hY hs5
    go_enter Tryz.func24, Tryz.ntmps24
    go_upto_region 1 with fail
    rw [← unhide HX, ← unhide HRB]
    go_wp2_with fail
    refine bodyPost_ret (v := .agg #[.int .i64 0, .int .i64 0, .int .i64 0, .int .i64 0, .int .i64 0]) (by simp [results, Tryz.results24, go_sem, *]) rfl ⟨rfl, unhide HB5⟩
  | some q =>
    rw [hq] at hlk
    unfold optp ptr at hlk
    have hac := hRX.ac _ q hq
    have y0 : Y.cell? ⟨rb, 0, none⟩ = some (.int .i64 (G.nw s.data.toList 0)) := by rw [cell_at hs5]; rfl
    have y1 : Y.cell? ⟨rb, 1, none⟩ = some (.int .i64 (G.nw s.data.toList 1)) := by rw [cell_at hs5]; rfl
    have y2 : Y.cell? ⟨rb, 2, none⟩ = some (.int .i64 (G.nw s.data.toList 2)) := by rw [cell_at hs5]; rfl
    have y3 : Y.cell? ⟨rb, 3, none⟩ = some (.int .i64 (G.nw s.data.toList 3)) := by rw [cell_at hs5]; rfl
    have y4 : Y.cell? ⟨rb, 4, none⟩ = some (.int .i64 (G.nw s.data.toList 4)) := by rw [cell_at hs5]; rfl
    have hl5 := run_ld39 (w := X) (b := q) (o := 1) (f := G.nw s.data.toList) (fun i v hv => by
      rw [cell_at hac]
      unfold Gh.acV
      unfold five at hv
      have hi : i < 5 := (List.getElem?_eq_some_iff.1 hv).1
      have : i = 0 ∨ i = 1 ∨ i = 2 ∨ i = 3 ∨ i = 4 := by omega
      rcases this with rfl | rfl | rfl | rfl | rfl <;> simpa using hv)
    have HB5 := hide hb5
    unfold obj5 at HX
    unfold ag5 at hst hld hl5 ⊢
    clear hR hRX hI hq hbX hr0 hb5 hX hrb hY hs5 hac
    go_enter Tryz.func24, Tryz.ntmps24
    go_upto_region 1 with fail
    rw [← unhide HX, ← unhide HRB]
    go_wp2_with fail
    refine bodyPost_ret (v := .agg #[.int .i64 (G.nw s.data.toList 0), .int .i64 (G.nw s.data.toList 1), .int .i64 (G.nw s.data.toList 2), .int .i64 (G.nw s.data.toList 3), .int .i64 (G.nw s.data.toList 4)]) (by simp [results, Tryz.results24, go_sem, *]) rfl ⟨rfl, unhide HB5⟩
end Go.Proofs.YtfclknlpdcanpaaGreatDoor
/- aged: At (17). -/
namespace Go.Proofs.YtfclknlpdcanpaaGreatDoor
open Go Go.Shelf Go.ChangeShapes Go.WideShapes Go.ChangeAt Go.RowKit Go.Maps
set_option linter.unusedVariables false
theorem sumL_take_le {l : List Nat} {f : Nat → Int} (h : ∀ p ∈ l, 0 ≤ f p) (j : Nat) : 0 ≤ sumL (l.take j) f ∧ sumL (l.take j) f ≤ sumL l f := by
  have h1 : sumL l f = sumL (l.take j) f + sumL (l.drop j) f := by rw [← sumL_append, List.take_append_drop]
  have h2 := sumL_nonneg (l := l.take j) (fun p hp => h p (List.mem_of_mem_take hp))
  have h3 := sumL_nonneg (l := l.drop j) (fun p hp => h p (List.mem_of_mem_drop hp))
  omega
theorem upd5 {w : World} {b n : Nat} {f : Nat → Int} (h : w.heap[b]? = some (obj5 f)) (hn : n ≤ 4) (v : Int) : (w.setCell ⟨b, n, none⟩ (.int .i64 v)).heap[b]? = some (obj5 fun i => if i = n then v else f i) := by
  unfold obj5 at h
  rw [Go.heap_setCell_same _ _ _ _ _ _ h]
  unfold obj5
  have : n = 0 ∨ n = 1 ∨ n = 2 ∨ n = 3 ∨ n = 4 := by omega
  rcases this with rfl | rfl | rfl | rfl | rfl <;> rfl
theorem cell5 {w : World} {b n : Nat} {f : Nat → Int} (h : w.heap[b]? = some (obj5 f)) (hn : n ≤ 4) : w.cell? ⟨b, n, none⟩ = some (.int .i64 (f n)) := by
  unfold obj5 at h
  rw [cell_at h]
  have : n = 0 ∨ n = 1 ∨ n = 2 ∨ n = 3 ∨ n = 4 := by omega
  rcases this with rfl | rfl | rfl | rfl | rfl <;> rfl
theorem froz5 {w : World} {b n : Nat} {f : Nat → Int} (h : w.heap[b]? = some (obj5 f)) : w.frozen? ⟨b, n, none⟩ = false := by
  unfold obj5 at h
  exact froz_at h
/-- share at a claim of a view -/
theorem share_at {W : World} {d p : Nat} {G : Gh} (hR : Raw W d G) (hI : Inv0 G) (hS : Stp W) (hp : p ∈ G.ps) {t : Int} (ht : dayB t = true) :
    Calls Tryz.prog 113 #[ptr p, .int .i64 t] W fun e w' => e = .returned (.agg #[.int .i64 (shr (G.cl p) (G.pt p) t).1, .int .i64 (shr (G.cl p) (G.pt p) t).2]) ∧ Below W.heap.size W w' := by
  have hpb : p ∈ G.bs := by rw [← hI.pb]; exact hp
  have hpr := hR.pr p hpb
  obtain ⟨pp, cp, e, _⟩ := row_slice hpr
  have hcb := hR.cb p hpb
  unfold Gh.clV at hcb
  rw [e] at hcb hpr
  have hok := hI.ok p hp
  have h1 := hok.d1; have h2 := hok.d2; have h3 := hok.d3; have h4 := hok.a1; have h5 := hok.a2
  have h6 := hI.len hp
  unfold dayB at ht
  simp at ht
  exact share_any hcb rfl (by omega) (own_lies kQ_ok rfl hpr) hS (hI.pos hp) (hI.sum p hp) ⟨by omega, h5⟩ ⟨by omega, by omega⟩ ⟨by omega, by omega⟩
/-- what At's loop keeps -/
structure AtR (W wr : World) (G : Gh) (t : Int) (L : List Nat) (j : Nat) : Prop where
  bel : Below W.heap.size W wr
  r : wr.heap[W.heap.size]? = some (obj5 fun _ => 0)
  a : wr.heap[W.heap.size + 1]? = some (obj5 fun i => sumL (L.take j) (fun p => con (shr (G.cl p) (G.pt p) t) i))
attribute [local go_sem ↓] ld39_is st39_is
set_option maxRecDepth 100000 in
set_option maxHeartbeats 8000000 in
theorem at_raw {W : World} {d : Nat} {G : Gh} (hR : Raw W d G) (hI : Inv0 G) (hS : Stp W) {s : ByteArray} (hs : s.size ≤ maxLen) (t : Int) :
    Calls Tryz.prog 26 #[ptr d, .string s, .int .i64 t] W fun e w' => e = .returned (ag5 fun j => sumL (ofL G s.data.toList t) (fun p => con (shr (G.cl p) (G.pt p) t) j)) ∧ Below W.heap.size W w' := by
  obtain ⟨X, hX⟩ : ∃ X, X = (W.alloc (obj5 fun _ => 0)).alloc (obj5 fun _ => 0) := ⟨_, rfl⟩
  have hbX : Below W.heap.size W X := by rw [hX]; exact ((Below.refl _ _).alloc (Nat.le_refl _) _).alloc (by simp) _
  have dO := hide (of_any (hR.below hbX) hs t)
  obtain ⟨pp, cc, ev, hL, hLm⟩ := of_out hI hR s.data.toList t
  rw [ev] at dO
  obtain ⟨L, hLe⟩ : ∃ L, L = ofL G s.data.toList t := ⟨_, rfl⟩
  rw [← hLe] at dO hL hLm
  obtain ⟨n, hn⟩ : ∃ n, n = L.length := ⟨_, rfl⟩
  rw [← hn] at dO
  have hday : 0 < n → dayB t = true := fun h => by
    cases hd : dayB t with
    | true => rfl
    | false => rw [hn, hLe] at h; unfold ofL at h; rw [hd] at h; simp at h
  have hnb : n ≤ 1000 := by
    rw [hn, hLe]; unfold ofL
    split
    · exact Nat.le_trans (ls_len hI _) hI.l1
    · simp
  have hbd : ∀ i j, 0 ≤ sumL (L.take j) (fun p => con (shr (G.cl p) (G.pt p) t) i) ∧ sumL (L.take j) (fun p => con (shr (G.cl p) (G.pt p) t) i) ≤ 9223372036854775807 := fun i j => by
    have hc : ∀ p ∈ G.ps, 0 ≤ con (shr (G.cl p) (G.pt p) t) i ∧ con (shr (G.cl p) (G.pt p) t) i ≤ (G.cl p).amt := fun p hp => by
      have h1 := shr_bounds (hI.pos hp) (hI.sum p hp) (by have := (hI.ok p hp).a1; omega) t
      exact con_bounds ⟨h1.1, h1.2.1⟩ i
    have h1 := sumL_take_le (l := L) (f := fun p => con (shr (G.cl p) (G.pt p) t) i) (fun p hp => (hc p (hLm p hp).1).1) j
    have h2 : sumL L (fun p => con (shr (G.cl p) (G.pt p) t) i) ≤ 9223372036854775807 := by
      rw [hLe]; unfold ofL
      split
      · exact (hI.age s.data.toList (fun p => con (shr (G.cl p) (G.pt p) t) i) hc).2
      · show (0 : Int) ≤ _; omega
    omega
  have HX : Hid (X = (W.alloc (obj5 fun _ => 0)).alloc (obj5 fun _ => 0)) := hX
  have HST : Hid (AtR W X G t L 0) := by
    refine ⟨hbX, ?_, ?_⟩
    · rw [hX, Below.heap_alloc _ _ _ (by simp)]; exact heap_new _ _
    · rw [hX]; exact heap_at (by simp)
  obtain ⟨rb, hrb⟩ : ∃ rb, rb = W.heap.size := ⟨_, rfl⟩
  have HRB := hide hrb; have HN := hide hn; have HL := hide hL; have HLM := hide hLm; have HDY := hide hday; have HBD := hide hbd; have HR := hide hR; have HI := hide hI; have HS := hide hS; have HLE := hide hLe
  unfold obj5 at HX
  unfold ptr at dO ⊢
  clear hX hbX hrb hn hL hLm hday hbd hR hI hS hLe ev
  go_enter Tryz.func26, Tryz.ntmps26
  go_upto_region 2 with fail
  rw [← unhide HX]
  clear HX
  go_wp2_with fail
  refine (unhide dO).mono ?_
  rintro e w1 ⟨rfl, hw⟩
  rw [hw]
  clear hw w1 dO
  go_wp2_with fail
  go_loopw [16] (fun v16 wr => ∃ (j : Nat), v16 = .int .i64 j ∧ j ≤ n ∧ Hid (AtR W wr G t L j)) (fun v16 _ => n - (intOf v16).toNat)
  case atStart => exact ⟨0, rfl, by omega, unhide HST⟩
  case round =>
    obtain ⟨j, rfl, hj, hrel⟩ := hrel
    have hA := unhide hrel
    by_cases hlt : j < n
    · have hjl : j < L.length := by rw [← unhide HN]; exact hlt
      obtain ⟨b, off, e, hbl, hr⟩ := (unhide HL).2 j hjl
      obtain ⟨p, hp⟩ : ∃ p, p = L[j] := ⟨_, rfl⟩
      rw [← hp] at hr
      have hpm := (unhide HLM p (by rw [hp]; exact List.getElem_mem hjl)).1
      have hc : wr.cell? ⟨b, off + j, none⟩ = some (.pointer (some ⟨p, 0, none⟩)) := by
        have h1 := hr 0 _ rfl
        rw [hA.bel.cell (p := ⟨b, off + j, none⟩) hbl]
        simpa [kP, ptr] using h1
      have dS := hide (share_at ((unhide HR).below hA.bel) (unhide HI) ((unhide HS).below hA.bel) hpm (unhide HDY (by omega)))
      obtain ⟨sg, hsg⟩ : ∃ sg, sg = shr (G.cl p) (G.pt p) t := ⟨_, rfl⟩
      rw [← hsg] at dS
      have hsb := shr_bounds ((unhide HI).pos hpm) ((unhide HI).sum p hpm) (by have := ((unhide HI).ok p hpm).a1; omega) t
      rw [← hsg] at hsb
      have et : L.take (j + 1) = L.take j ++ [p] := by rw [List.take_succ_eq_append_getElem hjl, ← hp]
      have hb1 := unhide HBD sg.1.toNat (j + 1)
      have hcon : con sg sg.1.toNat = sg.2 := by unfold con; rw [if_pos (by omega)]
      have hsum1 : ∀ i, sumL (L.take (j + 1)) (fun p => con (shr (G.cl p) (G.pt p) t) i) = sumL (L.take j) (fun p => con (shr (G.cl p) (G.pt p) t) i) + con sg i := fun i => by
        rw [et, sumL_append, sumL_cons, sumL_nil, hsg]; omega
      rw [hsum1, hcon] at hb1
      obtain ⟨s1, hs1⟩ : ∃ s1, s1 = sg.1 := ⟨_, rfl⟩
      obtain ⟨s2, hs2⟩ : ∃ s2, s2 = sg.2 := ⟨_, rfl⟩
      obtain ⟨n1, hn1⟩ : ∃ n1, n1 = sg.1.toNat := ⟨_, rfl⟩
      rw [← hs1, ← hs2] at dS
      have hn14 : n1 ≤ 4 := by omega
      have HA := hide hA; have HSUM := hide hsum1; have HSG := hide hsg; have HS1 := hide hs1; have HS2 := hide hs2; have HN1 := hide hn1; have HB1 := hide hb1; have HSB := hide hsb
      subst e
      unfold ptr at dS
      clear hrel hA hr hbl hp hpm hsg hsb et hb1 hcon hsum1 hs1 hs2 hn1 hjl
      go_wp2_with fail
      refine (unhide dS).mono ?_
      rintro e w1 ⟨rfl, hb2⟩
      have hA := unhide HA
      have hsz1 : W.heap.size + 1 < wr.heap.size := heap_lt hA.a
      have hA1 : AtR W w1 G t L j := ⟨hA.bel.trans (hb2.mono hA.bel.size), (hb2.block _ (by omega)).trans hA.r, (hb2.block _ hsz1).trans hA.a⟩
      obtain ⟨w2, hw2⟩ : ∃ w2, w2 = w1.alloc (.cells #[.int .i64 s1, .int .i64 s2] 107) := ⟨_, rfl⟩
      obtain ⟨sb, hsbk⟩ : ∃ sb, sb = w1.heap.size := ⟨_, rfl⟩
      have hsl : W.heap.size + 1 < w1.heap.size := heap_lt hA1.a
      have hA2 : AtR W w2 G t L j := by
        rw [hw2]
        exact ⟨hA1.bel.alloc hA1.bel.size _, (Below.heap_alloc _ _ _ (by omega)).trans hA1.r, (Below.heap_alloc _ _ _ hsl).trans hA1.a⟩
      have hs0 : w2.heap[sb]? = some (.cells #[.int .i64 s1, .int .i64 s2] 107 (0, 0)) := by rw [hw2, hsbk]; exact heap_new _ _
      obtain ⟨V, hV⟩ : ∃ V, V = w2.drew := ⟨_, rfl⟩
      have k0 : V.cell? ⟨sb, 0, none⟩ = some (.int .i64 s1) := by
        rw [hV]
        show w2.cell? _ = _
        rw [cell_at hs0]; rfl
      have k1 : V.cell? ⟨sb, 1, none⟩ = some (.int .i64 s2) := by
        rw [hV]
        show w2.cell? _ = _
        rw [cell_at hs0]; rfl
      obtain ⟨x0, hx0⟩ : ∃ x0, x0 = sumL (L.take j) (fun p => con (shr (G.cl p) (G.pt p) t) n1) := ⟨_, rfl⟩
      have ka : V.cell? ⟨W.heap.size + 1, n1, none⟩ = some (.int .i64 x0) := by
        rw [hV, hx0]
        show w2.cell? _ = _
        exact cell5 hA2.a hn14
      have kf : V.frozen? ⟨W.heap.size + 1, n1, none⟩ = false := by
        rw [hV]
        show w2.frozen? _ = _
        exact froz5 hA2.a
      have hb1 := unhide HB1
      rw [← unhide HN1, ← hx0, ← unhide HS2] at hb1
      have hsb := unhide HSB
      have hs1t : s1.toNat = n1 := by rw [unhide HS1]; exact (unhide HN1).symm
      have hs10 : 0 ≤ s1 := by rw [unhide HS1]; exact hsb.2.2.1
      have hs15 : s1 < 5 := by rw [unhide HS1]; omega
      have hwr : IntKind.i64.wrap (x0 + s2) = x0 + s2 := by rw [IntKind.wrap_i64]; omega
      have HREL : Hid (AtR W (V.setCell ⟨W.heap.size + 1, n1, none⟩ (.int .i64 (x0 + s2))) G t L (j + 1)) := by
        refine ⟨?_, ?_, ?_⟩
        · rw [hV]; exact hA2.bel.drew.setCell (by show W.heap.size ≤ W.heap.size + 1; omega) _
        · rw [Below.heap_setCell _ _ _ _ (by show W.heap.size ≠ W.heap.size + 1; omega), hV]; exact hA2.r
        · rw [upd5 (w := V) (f := fun i => sumL (L.take j) (fun p => con (shr (G.cl p) (G.pt p) t) i)) (by rw [hV]; exact hA2.a) hn14]
          have hf : ∀ i, (if i = n1 then x0 + s2 else sumL (L.take j) (fun p => con (shr (G.cl p) (G.pt p) t) i)) = sumL (L.take (j + 1)) (fun p => con (shr (G.cl p) (G.pt p) t) i) := fun i => by
            rw [unhide HSUM i]
            by_cases e : i = n1
            · rw [if_pos e, hx0, e, unhide HS2]
              unfold con
              rw [if_pos (show (n1 : Int) = sg.1 from by rw [unhide HN1]; omega)]
            · rw [if_neg e]
              unfold con
              rw [if_neg (show ¬ (i : Int) = sg.1 from fun h => e (by rw [unhide HN1]; omega))]
              omega
          exact congrArg (fun g => some (obj5 g)) (funext hf)
      have HW2 := hide hw2; have HSBK := hide hsbk; have HVV := hide hV
      clear hb2 hA hsz1 hA1 hsl hA2 hs0 hx0 hb1 hsb hw2 hsbk hV dS
      go_upto_region 6 with fail
      rw [← unhide HW2, ← unhide HSBK]
      refine wp_region_last (n := 8) (S := fun W' => W'.cell? ⟨sb, 0, none⟩ = some (.int .i64 s1) ∧ W'.cell? ⟨sb, 1, none⟩ = some (.int .i64 s2) ∧ W'.cell? ⟨W.heap.size + 1, n1, none⟩ = some (.int .i64 x0) ∧ W' = V) (by kernel_rfl) (by rw [← unhide HVV]; exact ⟨k0, k1, ka, rfl⟩) (fun hHeld => ?_)
      rw [← unhide HVV] at hHeld ⊢
      refine tkW 0 ?_; refine tkS 1 ?_; refine tkW 2 ?_; refine tkS 3 ?_; refine tkW 4 ?_; refine tkS 5 ?_; refine tkW 6 ?_; refine tkW 7 ?_
      clear hHeld
      refine wpAnyL_past (i := 8) (by kernel_rfl) rfl (by kernel_rfl) (fun KK hK => ?_)
      go_simp
      refine hK.out _ _ ?_
      clear hK KK
      refine wpAnyL_done (by kernel_rfl) ?_
      go_wp2_with fail
      exact ⟨⟨j + 1, by simp, by omega, unhide HREL⟩, by simp [intOf]; omega⟩
    · have hjn : j = n := by omega
      subst hjn
      have et : L.take j = L := List.take_of_length_le (by rw [← unhide HN]; omega)
      obtain ⟨F, hF⟩ : ∃ F : Nat → Int, F = fun i => sumL L (fun p => con (shr (G.cl p) (G.pt p) t) i) := ⟨_, rfl⟩
      have ha := hA.a
      rw [et, ← hF] at ha
      have hld := run_ld39 (w := wr) (b := W.heap.size + 1) (o := 0) (f := F) (fun i v hv => by
        unfold obj5 at ha
        rw [Nat.zero_add, cell_at ha]; simpa [five] using hv)
      have hst := run_st39 (there5 hA.r) F
      obtain ⟨Y, hY⟩ : ∃ Y, Y = wr.setCells W.heap.size 0 (five F) := ⟨_, rfl⟩
      rw [← hY] at hst
      have hr5 : Y.heap[W.heap.size]? = some (obj5 F) := by rw [hY]; exact set5 hA.r F
      have HB5 : Hid (Below W.heap.size W Y) := by rw [hY]; exact below5 (w := wr) (Nat.le_refl _) (five F) 0 W wr hA.bel
      have y0 := cell5 (n := 0) hr5 (by omega); have y1 := cell5 (n := 1) hr5 (by omega); have y2 := cell5 (n := 2) hr5 (by omega); have y3 := cell5 (n := 3) hr5 (by omega); have y4 := cell5 (n := 4) hr5 (by omega)
      have HFF : Hid (Ending.returned (ag5 F) = .returned (ag5 fun i => sumL (ofL G s.data.toList t) (fun p => con (shr (G.cl p) (G.pt p) t) i))) := by show _ = _; rw [hF, unhide HLE]
      unfold ag5 at hld hst
      clear hA hrel ha hr5 hY et hF
      go_wp2_with fail
      refine bodyPost_ret (v := .agg #[.int .i64 (F 0), .int .i64 (F 1), .int .i64 (F 2), .int .i64 (F 3), .int .i64 (F 4)]) (by simp [results, Tryz.results26, go_sem, *]) rfl ⟨unhide HFF, unhide HB5⟩
end Go.Proofs.YtfclknlpdcanpaaGreatDoor
/- aged: the order of open invoices, in plain words. -/
namespace Go.Proofs.YtfclknlpdcanpaaGreatDoor
open Go Go.Sort
set_option linter.unusedVariables false
def cmpI (x y : Int) : Int := if x < y then -1 else if x > y then 1 else 0
def cmpS (x y : List UInt8) : Int := if x < y then -1 else if x = y then 0 else 1
def cmp3 (x y : Cl) : Int := if cmpI x.due y.due ≠ 0 then cmpI x.due y.due else if cmpI x.day y.day ≠ 0 then cmpI x.day y.day else cmpS x.key.data.toList y.key.data.toList
/-- comes ahead -/
def Lt3 (x y : Cl) : Prop := x.due < y.due ∨ (x.due = y.due ∧ (x.day < y.day ∨ (x.day = y.day ∧ x.key.data.toList < y.key.data.toList)))
theorem cmpI_neg (x y : Int) : cmpI x y < 0 ↔ x < y := by
  unfold cmpI
  by_cases h1 : x < y
  · simp [h1]
  · by_cases h2 : x > y <;> simp [h1, h2]
theorem cmpI_zero (x y : Int) : cmpI x y = 0 ↔ x = y := by
  unfold cmpI
  by_cases h1 : x < y
  · simp [h1]; omega
  · by_cases h2 : x > y
    · simp [h1, h2]; omega
    · simp [h1, h2]; omega
theorem slt_irrefl (x : List UInt8) : ¬ x < x := List.lt_irrefl x
theorem slt_trans {x y z : List UInt8} (h1 : x < y) (h2 : y < z) : x < z := List.lt_trans h1 h2
theorem slt_tri {x y : List UInt8} (h1 : ¬ x < y) (h2 : ¬ y < x) : x = y := by
  rw [List.not_lt] at h1 h2
  exact List.le_antisymm h2 h1
theorem cmpS_neg (x y : List UInt8) : cmpS x y < 0 ↔ x < y := by
  unfold cmpS
  by_cases h1 : x < y
  · simp [h1]
  · by_cases h2 : x = y
    · rw [if_neg h1, if_pos h2]; simp [h1]
    · rw [if_neg h1, if_neg h2]; simp [h1]
theorem cmp3_neg (x y : Cl) : cmp3 x y < 0 ↔ Lt3 x y := by
  unfold cmp3 Lt3
  by_cases h1 : x.due = y.due
  · rw [if_neg (fun h => h ((cmpI_zero _ _).2 h1))]
    by_cases h2 : x.day = y.day
    · rw [if_neg (fun h => h ((cmpI_zero _ _).2 h2)), cmpS_neg]
      constructor
      · exact fun h => .inr ⟨h1, .inr ⟨h2, h⟩⟩
      · rintro (h | ⟨_, h | ⟨_, h⟩⟩)
        · omega
        · omega
        · exact h
    · rw [if_pos (fun h => h2 ((cmpI_zero _ _).1 h)), cmpI_neg]
      constructor
      · exact fun h => .inr ⟨h1, .inl h⟩
      · rintro (h | ⟨_, h | ⟨h, _⟩⟩)
        · omega
        · exact h
        · exact absurd h h2
  · rw [if_pos (fun h => h1 ((cmpI_zero _ _).1 h)), cmpI_neg]
    constructor
    · exact fun h => .inl h
    · rintro (h | ⟨h, _⟩)
      · exact h
      · exact absurd h h1
theorem Lt3.irrefl (x : Cl) : ¬ Lt3 x x := by
  rintro (h | ⟨_, h | ⟨_, h⟩⟩)
  · omega
  · omega
  · exact slt_irrefl _ h
theorem Lt3.trans {x y z : Cl} (h : Lt3 x y) (k : Lt3 y z) : Lt3 x z := by
  rcases h with h | ⟨e1, h⟩
  · rcases k with k | ⟨e2, k⟩
    · exact .inl (by omega)
    · exact .inl (by omega)
  · rcases k with k | ⟨e2, k⟩
    · exact .inl (by omega)
    · refine .inr ⟨by omega, ?_⟩
      rcases h with h | ⟨e3, h⟩
      · rcases k with k | ⟨e4, k⟩
        · exact .inl (by omega)
        · exact .inl (by omega)
      · rcases k with k | ⟨e4, k⟩
        · exact .inl (by omega)
        · exact .inr ⟨by omega, slt_trans h k⟩
theorem Lt3.tri {x y : Cl} (h : ¬ Lt3 x y) (k : ¬ Lt3 y x) : x.due = y.due ∧ x.day = y.day ∧ x.key.data.toList = y.key.data.toList := by
  have h1 : x.due = y.due := by
    by_cases e : x.due < y.due
    · exact absurd (.inl e) h
    · by_cases e2 : y.due < x.due
      · exact absurd (.inl e2) k
      · omega
  have h2 : x.day = y.day := by
    by_cases e : x.day < y.day
    · exact absurd (.inr ⟨h1, .inl e⟩) h
    · by_cases e2 : y.day < x.day
      · exact absurd (.inr ⟨h1.symm, .inl e2⟩) k
      · omega
  exact ⟨h1, h2, slt_tri (fun e => h (.inr ⟨h1, .inr ⟨h2, e⟩⟩)) (fun e => k (.inr ⟨h1.symm, .inr ⟨h2.symm, e⟩⟩))⟩
theorem ltC (x y : Cl) : ltOf cmp3 x y = true ↔ Lt3 x y := by
  unfold ltOf
  rw [decide_eq_true_iff, cmp3_neg]
theorem ltC' (x y : Cl) : ltOf cmp3 x y = false ↔ ¬ Lt3 x y := by
  rw [← ltC]
  cases ltOf cmp3 x y <;> simp
theorem same3 {x y z : Cl} (h : x.due = y.due ∧ x.day = y.day ∧ x.key.data.toList = y.key.data.toList) : (Lt3 x z ↔ Lt3 y z) ∧ (Lt3 z x ↔ Lt3 z y) := by
  unfold Lt3
  rw [h.1, h.2.1, h.2.2]
  exact ⟨Iff.rfl, Iff.rfl⟩
theorem swoC : SWO (ltOf cmp3) where
  irrefl x := (ltC' x x).2 (Lt3.irrefl x)
  trans x y z h1 h2 := (ltC x z).2 (Lt3.trans ((ltC x y).1 h1) ((ltC y z).1 h2))
  ntrans x y z h1 h2 := (ltC' x z).2 fun h => by
    have h1 := (ltC' x y).1 h1
    have h2 := (ltC' y z).1 h2
    by_cases e1 : Lt3 y x
    · exact h2 (Lt3.trans e1 h)
    · have := Lt3.tri h1 e1
      exact h2 ((same3 (z := z) this).1.1 h)
/-- sorted lists of the same elements are the same, where no two are alike in the order -/
theorem sorted_unique : ∀ {l m : List Cl}, l.Perm m → (∀ x ∈ l, ∀ y ∈ l, ¬ Lt3 x y → ¬ Lt3 y x → x = y) → l.Pairwise (fun a b => ¬ Lt3 b a) → m.Pairwise (fun a b => ¬ Lt3 b a) → l = m
  | [], m, h, _, _, _ => by rw [List.nil_perm] at h; exact h.symm
  | x :: l, [], h, _, _, _ => by rw [List.perm_nil] at h; cases h
  | x :: l, y :: m, h, hu, h1, h2 => by
    rw [List.pairwise_cons] at h1 h2
    have hxy : x = y := by
      have hy : y ∈ x :: l := h.mem_iff.2 List.mem_cons_self
      have hx : x ∈ y :: m := h.mem_iff.1 List.mem_cons_self
      rcases List.mem_cons.1 hy with e | hy
      · exact e.symm
      · rcases List.mem_cons.1 hx with e | hx
        · exact e
        · exact hu x List.mem_cons_self y (List.mem_cons_of_mem _ hy) (h2.1 x hx) (h1.1 y hy)
    subst hxy
    rw [sorted_unique ((List.perm_cons x).1 h) (fun a ha b hb => hu a (List.mem_cons_of_mem _ ha) b (List.mem_cons_of_mem _ hb)) h1.2 h2.2]
end Go.Proofs.YtfclknlpdcanpaaGreatDoor
namespace Go.Proofs
open Go.RowKit Go.Sort Go.Shelf

def Tryz.sortT_ren : Go.Shelf.Ren := ⟨fun | 6 => 139 | 15 => 233 | 14 => 232 | 28 => 247 | 29 => 248 | 20 => 239 | 21 => 240 | 22 => 241 | 23 => 242 | 24 => 243 | 25 => 244 | 26 => 245 | 27 => 246 | 46 => 250 | 47 => 251 | 48 => 252 | 49 => 253 | 50 => 254 | 57 => 256 | n => n, fun | 22 => 59 | 24 => 56 | 25 => 187 | 3 => 3 | 39 => 260 | 0 => 0 | 53 => 292 | 55 => 294 | 4 => 4 | 46 => 285 | 45 => 284 | 50 => 289 | 5 => 5 | 9 => 9 | 66 => 296 | 70 => 300 | 76 => 302 | 77 => 303 | n => n, fun | n => n⟩
theorem Tryz.sortT : Go.Proofs.SlLaysF0.n6 Tryz.prog Tryz.sortT_ren := {
  mixed := by kernel_rfl
  f6 := ⟨Tryz.f139.name, by decide, Tryz.func139.trans (congrArg some (by kernel_rfl))⟩
  f14 := ⟨Tryz.f232.name, by decide, Tryz.func232.trans (congrArg some (by kernel_rfl))⟩
  f15 := Tryz.func233.trans (congrArg some (by kernel_rfl))
  f20 := ⟨Tryz.f239.name, by decide, Tryz.func239.trans (congrArg some (by kernel_rfl))⟩
  f21 := ⟨Tryz.f240.name, by decide, Tryz.func240.trans (congrArg some (by kernel_rfl))⟩
  f22 := ⟨Tryz.f241.name, by decide, Tryz.func241.trans (congrArg some (by kernel_rfl))⟩
  f23 := ⟨Tryz.f242.name, by decide, Tryz.func242.trans (congrArg some (by kernel_rfl))⟩
  f24 := ⟨Tryz.f243.name, by decide, Tryz.func243.trans (congrArg some (by kernel_rfl))⟩
  f25 := ⟨Tryz.f244.name, by decide, Tryz.func244.trans (congrArg some (by kernel_rfl))⟩
  f26 := ⟨Tryz.f245.name, by decide, Tryz.func245.trans (congrArg some (by kernel_rfl))⟩
  f27 := ⟨Tryz.f246.name, by decide, Tryz.func246.trans (congrArg some (by kernel_rfl))⟩
  f28 := Tryz.func247.trans (congrArg some (by kernel_rfl))
  f29 := Tryz.func248.trans (congrArg some (by kernel_rfl))
  f46 := ⟨Tryz.f250.name, by decide, Tryz.func250.trans (congrArg some (by kernel_rfl))⟩
  f47 := Tryz.func251.trans (congrArg some (by kernel_rfl))
  f48 := Tryz.func252.trans (congrArg some (by kernel_rfl))
  f49 := ⟨Tryz.f253.name, by decide, Tryz.func253.trans (congrArg some (by kernel_rfl))⟩
  f50 := ⟨Tryz.f254.name, by decide, Tryz.func254.trans (congrArg some (by kernel_rfl))⟩
  f57 := ⟨Tryz.f256.name, by decide, Tryz.func256.trans (congrArg some (by kernel_rfl))⟩
  t0 := Tryz.underlying0
  a0 := Tryz.isAgg0
  z0 := Tryz.sizeOf0
  v0 := Tryz.zeroValue0
  t3 := Tryz.underlying3
  a3 := Tryz.isAgg3
  z3 := Tryz.sizeOf3
  v3 := Tryz.zeroValue3
  t4 := Tryz.underlying4
  a4 := Tryz.isAgg4
  z4 := Tryz.sizeOf4
  v4 := Tryz.zeroValue4
  t5 := Tryz.underlying5
  a5 := Tryz.isAgg5
  z5 := Tryz.sizeOf5
  v5 := Tryz.zeroValue5
  t9 := Tryz.underlying9
  a9 := Tryz.isAgg9
  z9 := Tryz.sizeOf9
  v9 := Tryz.zeroValue9
  t22 := Tryz.underlying59
  a22 := Tryz.isAgg59
  z22 := Tryz.sizeOf59
  v22 := Tryz.zeroValue59
  t25 := Tryz.underlying187
  a25 := Tryz.isAgg187
  z25 := Tryz.sizeOf187
  v25 := Tryz.zeroValue187
  t39 := Tryz.underlying260
  a39 := Tryz.isAgg260
  z39 := Tryz.sizeOf260
  v39 := Tryz.zeroValue260
  t45 := Tryz.underlying284
  a45 := Tryz.isAgg284
  z45 := Tryz.sizeOf284
  v45 := Tryz.zeroValue284
  t46 := Tryz.underlying285
  a46 := Tryz.isAgg285
  z46 := Tryz.sizeOf285
  v46 := Tryz.zeroValue285
  t50 := Tryz.underlying289
  a50 := Tryz.isAgg289
  z50 := Tryz.sizeOf289
  v50 := Tryz.zeroValue289
  t53 := Tryz.underlying292
  a53 := Tryz.isAgg292
  z53 := Tryz.sizeOf292
  v53 := Tryz.zeroValue292
  t55 := Tryz.underlying294
  a55 := Tryz.isAgg294
  z55 := Tryz.sizeOf294
  v55 := Tryz.zeroValue294
  t66 := Tryz.underlying296
  a66 := Tryz.isAgg296
  z66 := Tryz.sizeOf296
  v66 := Tryz.zeroValue296
  t70 := Tryz.underlying300
  a70 := Tryz.isAgg300
  z70 := Tryz.sizeOf300
  v70 := Tryz.zeroValue300
  t76 := Tryz.underlying302
  a76 := Tryz.isAgg302
  z76 := Tryz.sizeOf302
  v76 := Tryz.zeroValue302
  t77 := Tryz.underlying303
  a77 := Tryz.isAgg303
  z77 := Tryz.sizeOf303
  v77 := Tryz.zeroValue303 }
end Go.Proofs
