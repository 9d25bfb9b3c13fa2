/- noted (19): the book behind a call that answered OK. -/
import Derived.Test.YtpeohbkigkfcgaaKpC
namespace Go.Proofs.Ytpeohbkigkfcgaa
open Go Go.Shelf Go.ChangeShapes Go.WideShapes Go.ChangeAt Go.RowKit Go.Maps Go.Sort
set_option linter.unusedVariables false
/-- an append inside a region that draws, whatever place an empty list lies at -/
theorem step_append_in {ops : Array Oper} {o : Oper} {a : Act} {K : Act → World → Prop} {Q : Exit → Act → World → Prop} {E : Prop} (w : World) (hgd : o.guard = none) (s x : Operand)
    (ho : o.op = .call { callee := .builtin .append, args := #[s, x], argTypes := #[27, 27] })
    (v : Value) (bs : List UInt8) (hs : a.eval s = v) (hown : w.ownsRow 0 5 1 v bs.length (bcs bs)) (u : Value) (b2 : List UInt8) (hx : a.eval x = u) (hu : BytesIn w u b2) (hb : bs.length + b2.length ≤ 140737488351232) (b3 : List UInt8) (hb3 : b3 = bs ++ b2)
    (h : ∀ p c w', w'.ownsRow 0 5 1 (.slice p b3.length c) b3.length (bcs b3) → w'.ownsRow 0 5 1 v bs.length (bcs bs) → (((Value.slice p b3.length c).ownBlock = v.ownBlock ∧ w.grownBy w' v.ownBlock) ∨ ((Value.slice p b3.length c).ownBlock = some w.heap.size ∧ w.grownBy w' none)) → K (a.put o.dst (.slice p b3.length c)) w') :
    if Region.wanted o (yielded ops a.tmps) = true then Oper.wp Try.prog o a w K Q else E := by
  subst hb3
  have hw : Region.wanted o (yielded ops a.tmps) = true := by simp [Region.wanted, hgd]
  rw [if_pos hw]
  obtain ⟨p, c, w', hr, h2, h3, h4⟩ := run_append_in w o.type v bs hown u b2 hu hb
  unfold Oper.wp execOp
  simp only [ho, resolve, invoke, builtin, Sem.run_bind, Sem.run_pure, Result.andThen_ok, List.map_toArray, List.map_cons, List.map_nil, hs, hx, hr]
  exact h p c w' h2 h3 h4
theorem BytesAt.in {W : World} {u : Value} {bs : List UInt8} (h : BytesAt W u bs) : BytesIn W u bs := by
  rcases h with h | ⟨b, off, c, rfl, h⟩
  · exact .inl h
  · exact .inr ⟨⟨b, off, none⟩, c, rfl, fun j u hj => by rw [Addr.add_mid]; exact h j u hj⟩
theorem encStr_data (T : ByteArray) : encStr T.data.toList = .string T := by
  show Value.string ⟨T.data.toList.toArray⟩ = _
  rw [Array.toArray_toList]
/-- what an append leaves below a place -/
theorem app_below {w w' : World} {v u : Value} {B : Nat} (hg : (u.ownBlock = v.ownBlock ∧ w.grownBy w' v.ownBlock) ∨ (u.ownBlock = some w.heap.size ∧ w.grownBy w' none)) (hv : ∀ q, v.ownBlock = some q → B ≤ q) (hB : B ≤ w.heap.size) : Below B w w' ∧ ∀ q, u.ownBlock = some q → B ≤ q := by
  rcases hg with ⟨h1, h2⟩ | ⟨h1, h2⟩
  · exact ⟨⟨h2.os, h2.tape, h2.output, h2.size, fun k hk => h2.block k (by omega) (fun e => by have := hv k e.symm; omega)⟩, fun q hq => hv q (by rw [← h1]; exact hq)⟩
  · exact ⟨⟨h2.os, h2.tape, h2.output, h2.size, fun k hk => h2.block k (by omega) (by simp)⟩, fun q hq => by rw [h1] at hq; simp only [Option.some.injEq] at hq; omega⟩
theorem Sep.set {w : World} {U : Nat → Prop} {g j : Nat} {u : Value} (hg : U g) : Sep w (w.setCell ⟨g, j, none⟩ u) U U := Sep.cell w U g j u hg
set_option maxRecDepth 100000 in
set_option maxHeartbeats 4000000 in
theorem noted3 {w : World} {U : Nat → Prop} {v : Value} {l : Fs} (h : BookAt w U v l) (hl : l.length < 100) (o : OpV) (dk at0 : Int) (pb : Option Addr) (cb : Nat) (pk : Option Addr) (ck : Nat) (c1 f1 : Int) (pf : Option Addr) (lf cf : Nat) (b1 : Bool) (hkd : o.kind = 3) (hnm : o.nm.size ≤ 9223372036854775806) (hto : o.to.size ≤ 9223372036854775806) (A T : ByteArray) (hA : prS o.nm = A) (hT : prS o.to = T) :
    Calls Try.prog 19 #[v, opV o dk at0 pb cb pk ck c1 pf lf cf f1 b1] w fun e w' => ∃ v', e = .returned v' ∧ ∃ U', BookAt w' U' v' (l ++ [(A.data.toList, ⟨[], 0⟩)]) ∧ Sep w w' U U' := by
  obtain ⟨kind, nm, to, bs, nn, ks⟩ := o
  simp only at hkd hnm hto hA hT
  unfold opV
  dsimp only
  subst hkd
  obtain ⟨pa, ca, rfl⟩ := h.form
  obtain ⟨L, hL⟩ : ∃ L, L = l.length := ⟨_, rfl⟩
  have HB := hide h
  rw [← hL] at hl HB ⊢
  have HL := hide hL
  obtain ⟨w1, hw1⟩ : ∃ w1, w1 = w.alloc (.cells #[.int .i64 dk, .int .i64 3, .string nm, .string to, .slice pb bs.length cb, .int .i64 at0, .int .i64 nn, .slice pk ks.length ck, .int .i64 c1, .slice pf lf cf, .int .i64 f1, .bool b1] 33) := ⟨_, rfl⟩
  have b1' : Below w.heap.size w w1 := by rw [hw1]; exact bal (Below.refl _ _) _
  have z1 : w1.heap.size = w.heap.size + 1 := by rw [hw1]; simp
  have q1 : w1.cell? ⟨w.heap.size, 1, none⟩ = some (.int .i64 3) := by rw [hw1, World.cell?_alloc_mark]; rfl
  have q3 : w1.cell? ⟨w.heap.size, 3, none⟩ = some (.string to) := by rw [hw1, World.cell?_alloc_mark]; rfl
  have q4 : w1.cell? ⟨w.heap.size, 4, none⟩ = some (.slice pb bs.length cb) := by rw [hw1, World.cell?_alloc_mark]; rfl
  have H1 := hide hw1
  clear hw1 h hL
  have HP1 := pressed_ok nm hnm w1
  rw [hA] at HP1
  have HP1 := hide HP1
  have HP2 : Hid (∀ w2, Calls Try.prog 17 #[.string to] w2 fun e w' => e = .returned (.string T) ∧ Below w2.heap.size w2 w') := fun w2 => by rw [← hT]; exact pressed_ok to hto w2
  clear hA hT 
  go_enter Try.func19, Try.ntmps19
  go_wp2_with fail
  rw [← unhide H1]
  refine (unhide HP1).mono ?_
  rintro e w2 ⟨rfl, hb2⟩
  have z2 := hb2.size
  have t1 := keep1 hb2 (by omega) q1
  have t3 := keep1 hb2 (by omega) q3
  have t4 := keep1 hb2 (by omega) q4
  have B2 : Hid (Below w.heap.size w w2) := b1'.trans (hb2.mono (by omega))
  clear q1 q3 q4 b1' hb2
  go_wp2_with fail
  refine (unhide HP2 w2).mono ?_
  rintro e w3 ⟨rfl, hb3⟩
  have z3 := hb3.size
  have u1 := keep1 hb3 (by omega) t1
  have u4 := keep1 hb3 (by omega) t4
  have B3 : Hid (Below w.heap.size w w3) := (unhide B2).trans (hb3.mono (by omega))
  clear t1 t3 t4 hb3
  have HB3 := hide ((unhide HB).below (unhide B3))
  go_wp2_with fail
  refine (find18_ok (unhide HB3) (by rw [← unhide HL]; omega) A).mono ?_
  rintro e w4 ⟨rfl, hw4⟩
  rw [hw4]
  clear hw4 w4
  have HN4 : Hid (∀ o, BookAt (w3.alloc o) U (.slice pa L ca) l) := fun o => (unhide HB3).below (bal (Below.refl _ _) _)
  go_wp2_with (first | (at_builtin; refine wpList_append_note rfl _ _ rfl (.slice pa L ca) U l rfl (unhide HN4 _) (by rw [← unhide HL]; omega) w3.heap.size 1 rfl A.data.toList ⟨[], 0⟩ none 0 (by rw [World.cell?_alloc_mark]; rfl) (by rw [World.cell?_alloc_mark]; rfl) (by rw [World.cell?_alloc_mark]; rfl) (World.ownsRow_nil _ _ _ _) (fun q hq => by cases hq) ?_; intro p5 c5 w5 b5 g5 o5; have B5 := hide b5; have G5 := hide g5; have O5 := hide o5; clear b5 g5 o5))
  go_ret
  have hz := (unhide B3).size
  have hu := (unhide HB).lt
  have hown : ∀ q, (Value.slice pa L ca).ownBlock = some q → U q := by obtain ⟨_, h⟩ := unhide HB; exact h.own
  have g5 := unhide G5
  have hB := unhide B3
  refine ⟨_, rfl, _, unhide B5, ⟨g5.os.trans hB.os, g5.tape.trans hB.tape, g5.output.trans hB.output, by have := g5.size; simp at this; omega, fun q hq hU => (g5.block q (by simp; omega) (fun e => hU (hown q e.symm))).trans ((Below.heap_alloc _ _ _ (by omega)).trans (hB.block q hq)), fun q hq => ?_⟩⟩
  rcases hq with hq | hq
  · exact .inl hq
  · rcases unhide O5 with e5 | e5
    · rw [e5] at hq
      exact .inl (hown q hq)
    · rw [e5] at hq
      simp only [Option.some.injEq, World.size_alloc] at hq
      exact .inr (by omega)
set_option maxRecDepth 100000 in
set_option maxHeartbeats 4000000 in
theorem noted5 {w : World} {U : Nat → Prop} {v : Value} {l : Fs} (h : BookAt w U v l) (hl : l.length < 100) (o : OpV) (dk at0 : Int) (pb : Option Addr) (cb : Nat) (pk : Option Addr) (ck : Nat) (c1 f1 : Int) (pf : Option Addr) (lf cf : Nat) (b1 : Bool) (hkd : o.kind = 5) (hnm : o.nm.size ≤ 9223372036854775806) (hto : o.to.size ≤ 9223372036854775806) (A T : ByteArray) (hA : prS o.nm = A) (hT : prS o.to = T) {i : Nat} {x : Fl} (hi : l[i]? = some (A.data.toList, x)) (hix : idxF A.data.toList l 0 = (i : Int)) (hxl : x.bs.length ≤ 1048576) :
    Calls Try.prog 19 #[v, opV o dk at0 pb cb pk ck c1 pf lf cf f1 b1] w fun e w' => ∃ v', e = .returned v' ∧ ∃ U', BookAt w' U' v' (l.set i (A.data.toList, ⟨x.bs, x.bs.length⟩)) ∧ Sep w w' U U' := by
  obtain ⟨kind, nm, to, bs, nn, ks⟩ := o
  simp only at hkd hnm hto hA hT
  unfold opV
  dsimp only
  subst hkd
  obtain ⟨pa, ca, rfl⟩ := h.form
  obtain ⟨L, hL⟩ : ∃ L, L = l.length := ⟨_, rfl⟩
  have HB := hide h
  rw [← hL] at hl HB ⊢
  have HL := hide hL
  have HIX := hide hi
  obtain ⟨w1, hw1⟩ : ∃ w1, w1 = w.alloc (.cells #[.int .i64 dk, .int .i64 5, .string nm, .string to, .slice pb bs.length cb, .int .i64 at0, .int .i64 nn, .slice pk ks.length ck, .int .i64 c1, .slice pf lf cf, .int .i64 f1, .bool b1] 33) := ⟨_, rfl⟩
  have b1' : Below w.heap.size w w1 := by rw [hw1]; exact bal (Below.refl _ _) _
  have z1 : w1.heap.size = w.heap.size + 1 := by rw [hw1]; simp
  have q1 : w1.cell? ⟨w.heap.size, 1, none⟩ = some (.int .i64 5) := by rw [hw1, World.cell?_alloc_mark]; rfl
  have q3 : w1.cell? ⟨w.heap.size, 3, none⟩ = some (.string to) := by rw [hw1, World.cell?_alloc_mark]; rfl
  have q4 : w1.cell? ⟨w.heap.size, 4, none⟩ = some (.slice pb bs.length cb) := by rw [hw1, World.cell?_alloc_mark]; rfl
  have H1 := hide hw1
  clear hw1 h hL
  have HP1 := pressed_ok nm hnm w1
  rw [hA] at HP1
  have HP1 := hide HP1
  have HP2 : Hid (∀ w2, Calls Try.prog 17 #[.string to] w2 fun e w' => e = .returned (.string T) ∧ Below w2.heap.size w2 w') := fun w2 => by rw [← hT]; exact pressed_ok to hto w2
  clear hA hT hi
  go_enter Try.func19, Try.ntmps19
  go_wp2_with fail
  rw [← unhide H1]
  refine (unhide HP1).mono ?_
  rintro e w2 ⟨rfl, hb2⟩
  have z2 := hb2.size
  have t1 := keep1 hb2 (by omega) q1
  have t3 := keep1 hb2 (by omega) q3
  have t4 := keep1 hb2 (by omega) q4
  have B2 : Hid (Below w.heap.size w w2) := b1'.trans (hb2.mono (by omega))
  clear q1 q3 q4 b1' hb2
  go_wp2_with fail
  refine (unhide HP2 w2).mono ?_
  rintro e w3 ⟨rfl, hb3⟩
  have z3 := hb3.size
  have u1 := keep1 hb3 (by omega) t1
  have u4 := keep1 hb3 (by omega) t4
  have B3 : Hid (Below w.heap.size w w3) := (unhide B2).trans (hb3.mono (by omega))
  clear t1 t3 t4 hb3
  have HB3 := hide ((unhide HB).below (unhide B3))
  go_wp2_with fail
  refine (find18_ok (unhide HB3) (by rw [← unhide HL]; omega) A).mono ?_
  rintro e w4 ⟨rfl, hw4⟩
  rw [hw4]
  clear hw4 w4
  rw [hix]
  have hiL : i < L := by rw [unhide HL]; exact (List.getElem?_eq_some_iff.1 (unhide HIX)).1
  obtain ⟨g, ca', p, c, ev, hgU, hg, a0, a1, a2, af, ra, raU⟩ := (unhide HB3).at (unhide HIX)
  injection ev with ev eL ev3
  subst ev ev3
  clear eL
  have i0 : (0 : Int) ≤ (i : Int) := by omega
  have i1 : (i : Int) < (L : Int) := by omega
  have af2 := af (i * 3 + 2)
  have HRA := hide raU
  clear ra raU hix af
  go_wp2_with fail
  go_ret
  have hb := unhide HB3
  rw [unhide HL] at hb ⊢
  exact ⟨_, rfl, U, hb.sync (unhide HIX) x.bs.length, (Sep.of_below U (unhide B3)).trans (Sep.set hgU)⟩
set_option maxRecDepth 100000 in
set_option maxHeartbeats 4000000 in
theorem noted7 {w : World} {U : Nat → Prop} {v : Value} {l : Fs} (h : BookAt w U v l) (hl : l.length < 100) (o : OpV) (dk at0 : Int) (pb : Option Addr) (cb : Nat) (pk : Option Addr) (ck : Nat) (c1 f1 : Int) (pf : Option Addr) (lf cf : Nat) (b1 : Bool) (hkd : o.kind = 7) (hnm : o.nm.size ≤ 9223372036854775806) (hto : o.to.size ≤ 9223372036854775806) (A T : ByteArray) (hA : prS o.nm = A) (hT : prS o.to = T) :
    Calls Try.prog 19 #[v, opV o dk at0 pb cb pk ck c1 pf lf cf f1 b1] w fun e w' => ∃ v', e = .returned v' ∧ ∃ U', BookAt w' U' v' (delF A.data.toList l) ∧ Sep w w' U U' := by
  obtain ⟨kind, nm, to, bs, nn, ks⟩ := o
  simp only at hkd hnm hto hA hT
  unfold opV
  dsimp only
  subst hkd
  obtain ⟨pa, ca, rfl⟩ := h.form
  obtain ⟨L, hL⟩ : ∃ L, L = l.length := ⟨_, rfl⟩
  have HB := hide h
  rw [← hL] at hl HB ⊢
  have HL := hide hL
  obtain ⟨w1, hw1⟩ : ∃ w1, w1 = w.alloc (.cells #[.int .i64 dk, .int .i64 7, .string nm, .string to, .slice pb bs.length cb, .int .i64 at0, .int .i64 nn, .slice pk ks.length ck, .int .i64 c1, .slice pf lf cf, .int .i64 f1, .bool b1] 33) := ⟨_, rfl⟩
  have b1' : Below w.heap.size w w1 := by rw [hw1]; exact bal (Below.refl _ _) _
  have z1 : w1.heap.size = w.heap.size + 1 := by rw [hw1]; simp
  have q1 : w1.cell? ⟨w.heap.size, 1, none⟩ = some (.int .i64 7) := by rw [hw1, World.cell?_alloc_mark]; rfl
  have q3 : w1.cell? ⟨w.heap.size, 3, none⟩ = some (.string to) := by rw [hw1, World.cell?_alloc_mark]; rfl
  have q4 : w1.cell? ⟨w.heap.size, 4, none⟩ = some (.slice pb bs.length cb) := by rw [hw1, World.cell?_alloc_mark]; rfl
  have H1 := hide hw1
  clear hw1 h hL
  have HP1 := pressed_ok nm hnm w1
  rw [hA] at HP1
  have HP1 := hide HP1
  have HP2 : Hid (∀ w2, Calls Try.prog 17 #[.string to] w2 fun e w' => e = .returned (.string T) ∧ Below w2.heap.size w2 w') := fun w2 => by rw [← hT]; exact pressed_ok to hto w2
  clear hA hT 
  go_enter Try.func19, Try.ntmps19
  go_wp2_with fail
  rw [← unhide H1]
  refine (unhide HP1).mono ?_
  rintro e w2 ⟨rfl, hb2⟩
  have z2 := hb2.size
  have t1 := keep1 hb2 (by omega) q1
  have t3 := keep1 hb2 (by omega) q3
  have t4 := keep1 hb2 (by omega) q4
  have B2 : Hid (Below w.heap.size w w2) := b1'.trans (hb2.mono (by omega))
  clear q1 q3 q4 b1' hb2
  go_wp2_with fail
  refine (unhide HP2 w2).mono ?_
  rintro e w3 ⟨rfl, hb3⟩
  have z3 := hb3.size
  have u1 := keep1 hb3 (by omega) t1
  have u4 := keep1 hb3 (by omega) t4
  have B3 : Hid (Below w.heap.size w w3) := (unhide B2).trans (hb3.mono (by omega))
  clear t1 t3 t4 hb3
  have HB3 := hide ((unhide HB).below (unhide B3))
  go_wp2_with fail
  refine (find18_ok (unhide HB3) (by rw [← unhide HL]; omega) A).mono ?_
  rintro e w4 ⟨rfl, hw4⟩
  rw [hw4]
  clear hw4 w4
  go_wp2_with fail
  refine (dropped_ok (unhide HB3) (by rw [← unhide HL]; omega) A).mono ?_
  rintro e w5 ⟨p5, c5, rfl, U5, hb5, hu5, hw5⟩
  have H5 := hide hb5; have HU5 := hide hu5; have HW5 := hide hw5
  clear hb5 hu5 hw5
  go_wp2_with fail
  go_ret
  have hz := (unhide B3).size
  have hs : Sep w w5 U U := Sep.of_below U ((unhide B3).trans ((unhide HW5).mono hz))
  exact ⟨_, rfl, U5, unhide H5, ⟨hs.os, hs.tape, hs.output, hs.size, hs.block, fun q hq => (unhide HU5 q hq).imp id (fun h => Nat.le_trans hz h)⟩⟩
set_option maxRecDepth 100000 in
set_option maxHeartbeats 4000000 in
theorem noted6ne {w : World} {U : Nat → Prop} {v : Value} {l : Fs} (h : BookAt w U v l) (hl : l.length < 100) (o : OpV) (dk at0 : Int) (pb : Option Addr) (cb : Nat) (pk : Option Addr) (ck : Nat) (c1 f1 : Int) (pf : Option Addr) (lf cf : Nat) (b1 : Bool) (hkd : o.kind = 6) (hnm : o.nm.size ≤ 9223372036854775806) (hto : o.to.size ≤ 9223372036854775806) (A T : ByteArray) (hA : prS o.nm = A) (hT : prS o.to = T) (hne : (A.toList == T.toList) = false) {i : Nat} {x : Fl} (hi : (delF T.data.toList l)[i]? = some (A.data.toList, x)) (hix : idxF A.data.toList (delF T.data.toList l) 0 = (i : Int)) :
    Calls Try.prog 19 #[v, opV o dk at0 pb cb pk ck c1 pf lf cf f1 b1] w fun e w' => ∃ v', e = .returned v' ∧ ∃ U', BookAt w' U' v' ((delF T.data.toList l).set i (T.data.toList, x)) ∧ Sep w w' U U' := by
  obtain ⟨kind, nm, to, bs, nn, ks⟩ := o
  simp only at hkd hnm hto hA hT
  unfold opV
  dsimp only
  subst hkd
  obtain ⟨pa, ca, rfl⟩ := h.form
  obtain ⟨L, hL⟩ : ∃ L, L = l.length := ⟨_, rfl⟩
  have HB := hide h
  rw [← hL] at hl HB ⊢
  have HL := hide hL
  have HIX := hide hi; have HII := hide hix
  obtain ⟨w1, hw1⟩ : ∃ w1, w1 = w.alloc (.cells #[.int .i64 dk, .int .i64 6, .string nm, .string to, .slice pb bs.length cb, .int .i64 at0, .int .i64 nn, .slice pk ks.length ck, .int .i64 c1, .slice pf lf cf, .int .i64 f1, .bool b1] 33) := ⟨_, rfl⟩
  have b1' : Below w.heap.size w w1 := by rw [hw1]; exact bal (Below.refl _ _) _
  have z1 : w1.heap.size = w.heap.size + 1 := by rw [hw1]; simp
  have q1 : w1.cell? ⟨w.heap.size, 1, none⟩ = some (.int .i64 6) := by rw [hw1, World.cell?_alloc_mark]; rfl
  have q3 : w1.cell? ⟨w.heap.size, 3, none⟩ = some (.string to) := by rw [hw1, World.cell?_alloc_mark]; rfl
  have q4 : w1.cell? ⟨w.heap.size, 4, none⟩ = some (.slice pb bs.length cb) := by rw [hw1, World.cell?_alloc_mark]; rfl
  have H1 := hide hw1
  clear hw1 h hL
  have HP1 := pressed_ok nm hnm w1
  rw [hA] at HP1
  have HP1 := hide HP1
  have HP2 : Hid (∀ w2, Calls Try.prog 17 #[.string to] w2 fun e w' => e = .returned (.string T) ∧ Below w2.heap.size w2 w') := fun w2 => by rw [← hT]; exact pressed_ok to hto w2
  clear hA hT hi hix
  go_enter Try.func19, Try.ntmps19
  go_wp2_with fail
  rw [← unhide H1]
  refine (unhide HP1).mono ?_
  rintro e w2 ⟨rfl, hb2⟩
  have z2 := hb2.size
  have t1 := keep1 hb2 (by omega) q1
  have t3 := keep1 hb2 (by omega) q3
  have t4 := keep1 hb2 (by omega) q4
  have B2 : Hid (Below w.heap.size w w2) := b1'.trans (hb2.mono (by omega))
  clear q1 q3 q4 b1' hb2
  go_wp2_with fail
  refine (unhide HP2 w2).mono ?_
  rintro e w3 ⟨rfl, hb3⟩
  have z3 := hb3.size
  have u1 := keep1 hb3 (by omega) t1
  have u4 := keep1 hb3 (by omega) t4
  have B3 : Hid (Below w.heap.size w w3) := (unhide B2).trans (hb3.mono (by omega))
  clear t1 t3 t4 hb3
  have HB3 := hide ((unhide HB).below (unhide B3))
  go_wp2_with fail
  refine (find18_ok (unhide HB3) (by rw [← unhide HL]; omega) A).mono ?_
  rintro e w4 ⟨rfl, hw4⟩
  rw [hw4]
  clear hw4 w4
  go_wp2_with fail
  refine (dropped_ok (unhide HB3) (by rw [← unhide HL]; omega) T).mono ?_
  rintro e w5 ⟨p5, c5, rfl, U5, hb5, hu5, hw5⟩
  have H5 := hide hb5; have HU5 := hide hu5; have HW5 := hide hw5
  clear hb5 hu5 hw5
  go_wp2_with fail
  have hlen := len_del_le T.data.toList l
  refine (find18_ok (unhide H5) (by have := unhide HL; omega) A).mono ?_
  rintro e w6 ⟨rfl, hw6⟩
  rw [hw6, unhide HII]
  clear hw6 w6
  have hiL := (List.getElem?_eq_some_iff.1 (unhide HIX)).1
  obtain ⟨g, ca', p, c, ev, hgU, hg, a0, a1, a2, af, ra, raU⟩ := (unhide H5).at (unhide HIX)
  injection ev with ev eL ev3
  subst ev ev3
  clear eL
  obtain ⟨M, hM⟩ : ∃ M, M = (delF T.data.toList l).length := ⟨_, rfl⟩
  rw [← hM] at hiL ⊢
  have HM := hide hM
  have i0 : (0 : Int) ≤ (i : Int) := by omega
  have i1 : (i : Int) < (M : Int) := by omega
  have af0 := af (i * 3)
  clear ra raU af hM hlen
  go_wp2_with fail
  go_ret
  have hz := (unhide B3).size
  have hs : Sep w w5 U U := Sep.of_below U ((unhide B3).trans ((unhide HW5).mono hz))
  have hs5 : Sep w w5 U U5 := ⟨hs.os, hs.tape, hs.output, hs.size, hs.block, fun q hq => (unhide HU5 q hq).imp id (fun h => Nat.le_trans hz h)⟩
  rw [unhide HM]
  have hb := (unhide H5).name (unhide HIX) T.data.toList
  rw [encStr_data] at hb
  exact ⟨_, rfl, U5, hb, hs5.trans (Sep.set hgU)⟩
set_option maxRecDepth 100000 in
set_option maxHeartbeats 4000000 in
theorem noted6eq {w : World} {U : Nat → Prop} {v : Value} {l : Fs} (h : BookAt w U v l) (hl : l.length < 100) (o : OpV) (dk at0 : Int) (pb : Option Addr) (cb : Nat) (pk : Option Addr) (ck : Nat) (c1 f1 : Int) (pf : Option Addr) (lf cf : Nat) (b1 : Bool) (hkd : o.kind = 6) (hnm : o.nm.size ≤ 9223372036854775806) (hto : o.to.size ≤ 9223372036854775806) (A T : ByteArray) (hA : prS o.nm = A) (hT : prS o.to = T) (hne : A = T) :
    Calls Try.prog 19 #[v, opV o dk at0 pb cb pk ck c1 pf lf cf f1 b1] w fun e w' => ∃ v', e = .returned v' ∧ ∃ U', BookAt w' U' v' (l) ∧ Sep w w' U U' := by
  obtain ⟨kind, nm, to, bs, nn, ks⟩ := o
  simp only at hkd hnm hto hA hT
  unfold opV
  dsimp only
  subst hkd
  obtain ⟨pa, ca, rfl⟩ := h.form
  obtain ⟨L, hL⟩ : ∃ L, L = l.length := ⟨_, rfl⟩
  have HB := hide h
  rw [← hL] at hl HB ⊢
  have HL := hide hL
  subst hne
  obtain ⟨w1, hw1⟩ : ∃ w1, w1 = w.alloc (.cells #[.int .i64 dk, .int .i64 6, .string nm, .string to, .slice pb bs.length cb, .int .i64 at0, .int .i64 nn, .slice pk ks.length ck, .int .i64 c1, .slice pf lf cf, .int .i64 f1, .bool b1] 33) := ⟨_, rfl⟩
  have b1' : Below w.heap.size w w1 := by rw [hw1]; exact bal (Below.refl _ _) _
  have z1 : w1.heap.size = w.heap.size + 1 := by rw [hw1]; simp
  have q1 : w1.cell? ⟨w.heap.size, 1, none⟩ = some (.int .i64 6) := by rw [hw1, World.cell?_alloc_mark]; rfl
  have q3 : w1.cell? ⟨w.heap.size, 3, none⟩ = some (.string to) := by rw [hw1, World.cell?_alloc_mark]; rfl
  have q4 : w1.cell? ⟨w.heap.size, 4, none⟩ = some (.slice pb bs.length cb) := by rw [hw1, World.cell?_alloc_mark]; rfl
  have H1 := hide hw1
  clear hw1 h hL
  have HP1 := pressed_ok nm hnm w1
  rw [hA] at HP1
  have HP1 := hide HP1
  have HP2 : Hid (∀ w2, Calls Try.prog 17 #[.string to] w2 fun e w' => e = .returned (.string A) ∧ Below w2.heap.size w2 w') := fun w2 => by rw [← hT]; exact pressed_ok to hto w2
  clear hA hT 
  go_enter Try.func19, Try.ntmps19
  go_wp2_with fail
  rw [← unhide H1]
  refine (unhide HP1).mono ?_
  rintro e w2 ⟨rfl, hb2⟩
  have z2 := hb2.size
  have t1 := keep1 hb2 (by omega) q1
  have t3 := keep1 hb2 (by omega) q3
  have t4 := keep1 hb2 (by omega) q4
  have B2 : Hid (Below w.heap.size w w2) := b1'.trans (hb2.mono (by omega))
  clear q1 q3 q4 b1' hb2
  go_wp2_with fail
  refine (unhide HP2 w2).mono ?_
  rintro e w3 ⟨rfl, hb3⟩
  have z3 := hb3.size
  have u1 := keep1 hb3 (by omega) t1
  have u4 := keep1 hb3 (by omega) t4
  have B3 : Hid (Below w.heap.size w w3) := (unhide B2).trans (hb3.mono (by omega))
  clear t1 t3 t4 hb3
  have HB3 := hide ((unhide HB).below (unhide B3))
  go_wp2_with fail
  refine (find18_ok (unhide HB3) (by rw [← unhide HL]; omega) A).mono ?_
  rintro e w4 ⟨rfl, hw4⟩
  rw [hw4]
  clear hw4 w4
  go_wp2_with fail
  go_ret
  exact ⟨_, rfl, U, unhide HB3, Sep.of_below U (unhide B3)⟩
set_option maxRecDepth 100000 in
set_option maxHeartbeats 4000000 in
theorem noted4 {w : World} {U : Nat → Prop} {v : Value} {l : Fs} (h : BookAt w U v l) (hl : l.length < 100) (o : OpV) (dk at0 : Int) (pb : Option Addr) (cb : Nat) (pk : Option Addr) (ck : Nat) (c1 f1 : Int) (pf : Option Addr) (lf cf : Nat) (b1 : Bool) (hkd : o.kind = 4) (hnm : o.nm.size ≤ 9223372036854775806) (hto : o.to.size ≤ 9223372036854775806) (A T : ByteArray) (hA : prS o.nm = A) (hT : prS o.to = T) {i : Nat} {x : Fl} (hi : l[i]? = some (A.data.toList, x)) (hix : idxF A.data.toList l 0 = (i : Int)) (hxl : x.bs.length + o.bs.length ≤ 1048576) (hby : BytesIn w (.slice pb o.bs.length cb) o.bs) :
    Calls Try.prog 19 #[v, opV o dk at0 pb cb pk ck c1 pf lf cf f1 b1] w fun e w' => ∃ v', e = .returned v' ∧ ∃ U', BookAt w' U' v' (l.set i (A.data.toList, ⟨x.bs ++ o.bs, x.sy⟩)) ∧ Sep w w' U U' := by
  obtain ⟨kind, nm, to, bs, nn, ks⟩ := o
  simp only at hkd hnm hto hA hT hxl hby
  unfold opV
  dsimp only
  subst hkd
  obtain ⟨pa, ca, rfl⟩ := h.form
  obtain ⟨L, hL⟩ : ∃ L, L = l.length := ⟨_, rfl⟩
  have HB := hide h
  rw [← hL] at hl HB ⊢
  have HL := hide hL
  have HIX := hide hi; have HBY := hide hby
  obtain ⟨w1, hw1⟩ : ∃ w1, w1 = w.alloc (.cells #[.int .i64 dk, .int .i64 4, .string nm, .string to, .slice pb bs.length cb, .int .i64 at0, .int .i64 nn, .slice pk ks.length ck, .int .i64 c1, .slice pf lf cf, .int .i64 f1, .bool b1] 33) := ⟨_, rfl⟩
  have b1' : Below w.heap.size w w1 := by rw [hw1]; exact bal (Below.refl _ _) _
  have z1 : w1.heap.size = w.heap.size + 1 := by rw [hw1]; simp
  have q1 : w1.cell? ⟨w.heap.size, 1, none⟩ = some (.int .i64 4) := by rw [hw1, World.cell?_alloc_mark]; rfl
  have q3 : w1.cell? ⟨w.heap.size, 3, none⟩ = some (.string to) := by rw [hw1, World.cell?_alloc_mark]; rfl
  have q4 : w1.cell? ⟨w.heap.size, 4, none⟩ = some (.slice pb bs.length cb) := by rw [hw1, World.cell?_alloc_mark]; rfl
  have H1 := hide hw1
  clear hw1 h hL
  have HP1 := pressed_ok nm hnm w1
  rw [hA] at HP1
  have HP1 := hide HP1
  have HP2 : Hid (∀ w2, Calls Try.prog 17 #[.string to] w2 fun e w' => e = .returned (.string T) ∧ Below w2.heap.size w2 w') := fun w2 => by rw [← hT]; exact pressed_ok to hto w2
  clear hA hT hi hby
  go_enter Try.func19, Try.ntmps19
  go_wp2_with fail
  rw [← unhide H1]
  refine (unhide HP1).mono ?_
  rintro e w2 ⟨rfl, hb2⟩
  have z2 := hb2.size
  have t1 := keep1 hb2 (by omega) q1
  have t3 := keep1 hb2 (by omega) q3
  have t4 := keep1 hb2 (by omega) q4
  have B2 : Hid (Below w.heap.size w w2) := b1'.trans (hb2.mono (by omega))
  clear q1 q3 q4 b1' hb2
  go_wp2_with fail
  refine (unhide HP2 w2).mono ?_
  rintro e w3 ⟨rfl, hb3⟩
  have z3 := hb3.size
  have u1 := keep1 hb3 (by omega) t1
  have u4 := keep1 hb3 (by omega) t4
  have B3 : Hid (Below w.heap.size w w3) := (unhide B2).trans (hb3.mono (by omega))
  clear t1 t3 t4 hb3
  have HB3 := hide ((unhide HB).below (unhide B3))
  go_wp2_with fail
  refine (find18_ok (unhide HB3) (by rw [← unhide HL]; omega) A).mono ?_
  rintro e w4 ⟨rfl, hw4⟩
  rw [hw4]
  clear hw4 w4
  rw [hix]
  have hiL : i < L := by rw [unhide HL]; exact (List.getElem?_eq_some_iff.1 (unhide HIX)).1
  obtain ⟨g, ca', p, c, ev, hgU, hg, a0, a1, a2, af, ra, raU⟩ := (unhide HB3).at (unhide HIX)
  injection ev with ev eL ev3
  subst ev ev3
  clear eL
  have i0 : (0 : Int) ≤ (i : Int) := by omega
  have i1 : (i : Int) < (L : Int) := by omega
  have af1 := af (i * 3 + 1)
  have gl : g < w3.heap.size := hg
  have HU1 : Hid (BytesIn (w3.alloc (.cells #[] 5)).drew (.slice p x.bs.length c) x.bs) := (((BytesAt.of_row ra).in).below (W' := w3.drew) ⟨rfl, rfl, rfl, Nat.le_refl _, fun _ _ => rfl⟩).below (bal (Below.refl _ _) _)
  have HU2 : Hid (∀ w5, Below w3.heap.size w3 w5 → BytesIn w5 (.slice pb bs.length cb) bs) := fun w5 hb => ((unhide HBY).below (unhide B3)).below hb
  have H5 : Hid (∀ w5, Below w3.heap.size w3 w5 → (w5.cell? ⟨g, i * 3 + 1, none⟩ = some (.slice p x.bs.length c) ∧ w5.frozen? ⟨g, i * 3 + 1, none⟩ = false ∧ w5.cell? ⟨w.heap.size, 4, none⟩ = some (.slice pb bs.length cb))) := fun w5 hb => ⟨keep1 hb gl a1, keepF hb gl af1, keep1 hb (by omega) u4⟩
  have hb0 : Hid (Below w3.heap.size w3 (w3.alloc (.cells #[] 5)).drew) := ⟨rfl, rfl, rfl, by simp, fun k hk => (Below.heap_alloc w3.drew _ k hk)⟩
  have ea1 := fun o => keep1 (bal (Below.refl w3.heap.size w3) o) gl a1
  have ea2 := fun o => keepF (bal (Below.refl w3.heap.size w3) o) gl af1
  have ea4 := fun o => keep1 (bal (Below.refl w3.heap.size w3) o) (show w.heap.size < w3.heap.size by omega) u4
  clear ra raU hix af
  go_wp2_with fail
  go_region_law (first
    | ((refine step_append_in _ (by rfl) _ _ (by rfl) (.slice (some ⟨w3.heap.size, 0, none⟩) 0 0) [] (by rfl) (show (w3.alloc (.cells #[] 5)).drew.ownsRow 0 5 1 _ _ _ from row_none w3.drew) (.slice p x.bs.length c) x.bs (by rfl) (unhide HU1) (by simp; omega) x.bs rfl ?_; intro p5 c5 w5 r5 r5' hg5; have R5 := hide r5; have hab := app_below (B := w3.heap.size) hg5 (fun q hq => by simp only [Value.ownBlock, Option.some.injEq] at hq; omega) (by simp); have O5 := hide hab.2; have HB5 : Hid (Below w3.heap.size w3 w5) := (unhide hb0).trans hab.1; obtain ⟨s0, s1, s2⟩ := unhide H5 w5 (unhide HB5); clear r5 r5' hg5 hab))
    | ((refine step_append_in _ (by rfl) _ _ (by rfl) (.slice p5 x.bs.length c5) x.bs (by rfl) (unhide R5) (.slice pb bs.length cb) bs (by rfl) (unhide HU2 w5 (unhide HB5)) (by omega) (x.bs ++ bs) rfl ?_; intro p6 c6 w6 r6 r6' hg6; have R6 := hide r6; have hab := app_below (B := w3.heap.size) hg6 (unhide O5) (unhide HB5).size; have O6 := hide hab.2; have HB6 : Hid (Below w3.heap.size w3 w6) := (unhide HB5).trans hab.1; obtain ⟨v0, v1, v2⟩ := unhide H5 w6 (unhide HB6); clear r6 r6' hg6 hab)))
  all_goals go_wp2_with fail
  all_goals go_ret
  all_goals
    have hz := (unhide B3).size
    have hb6 := (unhide HB3).below (unhide HB6)
    rw [unhide HL] at hb6 ⊢
    have hbd := hb6.data (unhide HIX) (bs := x.bs ++ bs) (unhide R6) (U' := fun q => U q ∨ (Value.slice p6 (x.bs ++ bs).length c6).ownBlock = some q) (fun q h => .inl h) (fun q hq => .inr hq) (fun q hq => hq.elim (hb6.lt q) (fun h' => ((unhide R6).lt q h').2))
    have hs : Sep w w6 U U := Sep.of_below U ((unhide B3).trans ((unhide HB6).mono hz))
    have hs2 := hs.trans (Sep.set (j := i * 3 + 1) (u := .slice p6 (x.bs ++ bs).length c6) hgU)
    have ho6 := unhide O6
    rw [List.length_append] at hbd hs2 ho6
    exact ⟨_, rfl, fun q => U q ∨ (Value.slice p6 (x.bs.length + bs.length) c6).ownBlock = some q, hbd, ⟨hs2.os, hs2.tape, hs2.output, hs2.size, hs2.block, fun q hq => hq.imp id (fun h' => Nat.le_trans hz (ho6 q h'))⟩⟩
end Go.Proofs.Ytpeohbkigkfcgaa
