import Derived.Test.YtmgnlgobkkfjhaaGreatDoorW23
import Derived.Test.YtmgnlgobkkfjhaaGreatDoorW20
/- The program's daily: a view with its own blocks; New, Apply, State, At, Between. -/
namespace Go.Proofs.YtmgnlgobkkfjhaaGreatDoor.Kg
open Go Go.RowKit Go.Shelf Go.ChangeShapes Go.WideShapes Go.ChangeAt Go.Maps
set_option linter.unusedVariables false
set_option linter.unusedSimpArgs false
set_option maxRecDepth 100000
set_option maxHeartbeats 8000000
/-- a view's own blocks -/
def Bk (d : Nat) (mo : Option Nat) (V : List UInt8 → Value) (q : Nat) : Prop := q = d ∨ mo = some q ∨ ∃ k, (V k).ownBlock = some q
/-- the program's view at d of the rows R; its own blocks lie within Q -/
structure Vq (W : World) (d : Nat) (Q : Nat → Prop) (R : List Ro) : Prop where
  ex : ∃ B n mo F V, Dv W B d n mo (fun k => tol R k) F V ∧ n ≤ R.length ∧ B ≤ W.heap.size ∧ ∀ q, Bk d mo V q → Q q
  lt : ∀ q, Q q → q < W.heap.size
  ok : ∀ r ∈ R, okR r
  can : Can R
theorem DvAt.keep {w w' : World} {B d n : Nat} {mo : Option Nat} {F : List UInt8 → List Mk} {V : List UInt8 → Value} (h : DvAt w B d n mo F V) (hb : ∀ q, Bk d mo V q → w'.heap[q]? = w.heap[q]?) : DvAt w' B d n mo F V := by
  refine ⟨(hb d (.inl rfl)).trans h.1, h.2.1, ?_⟩
  rcases h.2.2 with h1 | ⟨b, D, e, hb', hA⟩
  · exact .inl h1
  · refine .inr ⟨b, D, e, hb', ⟨?_, hA.val, hA.key, fun k => row_keep (hA.row k) (fun q hq => hb q (.inr (.inr ⟨k, hq⟩))), hA.nil, hA.apart⟩⟩
    obtain ⟨es, clock, hm, r⟩ := hA.map
    exact ⟨es, clock, (hb b (.inr (.inl e))).trans hm, r⟩
theorem Vq.keep {W W' : World} {d : Nat} {Q : Nat → Prop} {R : List Ro} (h : Vq W d Q R) (hz : W.heap.size ≤ W'.heap.size) (hb : ∀ q, Q q → W'.heap[q]? = W.heap[q]?) : Vq W' d Q R := by
  obtain ⟨B, n, mo, F, V, hD, hn, hB, hQ⟩ := h.ex
  exact ⟨⟨B, n, mo, F, V, ⟨DvAt.keep hD.at' (fun q hq => hb q (hQ q hq)), hD.ser, hD.fit⟩, hn, Nat.le_trans hB hz, hQ⟩, fun q hq => Nat.lt_of_lt_of_le (h.lt q hq) hz, h.ok, h.can⟩
theorem Vq.below {W W' : World} {d : Nat} {Q : Nat → Prop} {R : List Ro} (h : Vq W d Q R) (hb : Below W.heap.size W W') : Vq W' d Q R := h.keep hb.size (fun q hq => hb.block q (h.lt q hq))
theorem Vq.fit {W : World} {d : Nat} {Q : Nat → Prop} {R : List Ro} (h : Vq W d Q R) (k : List UInt8) : fitT (tol R k) := by
  obtain ⟨B, n, mo, F, V, hD, _⟩ := h.ex
  exact hD.fit k
theorem Vq.qd {W : World} {d : Nat} {Q : Nat → Prop} {R : List Ro} (h : Vq W d Q R) : Q d := by
  obtain ⟨B, n, mo, F, V, _, _, _, hQ⟩ := h.ex
  exact hQ d (.inl rfl)
theorem new_any (w : World) : Calls Tryz.prog 10 #[] w fun e w' => e = .returned (.pointer (some ⟨w.heap.size, 0, none⟩)) ∧ w' = w.alloc (.cells #[.map none] 80) := by
  go_enter Tryz.func10, Tryz.ntmps10
  go_wp2_with fail
  go_ret
  exact ⟨rfl, rfl⟩
theorem Vq.new (w : World) : Vq (w.alloc (.cells #[.map none] 80)) w.heap.size (fun q => q = w.heap.size) [] := by
  refine ⟨⟨w.heap.size + 1, 0, none, fun _ => [], fun _ => .slice none 0 0, ⟨⟨heap_new _ _, by omega, .inl ⟨rfl, fun _ => rfl, fun _ => rfl⟩⟩, fun k => Ser.nil, fun k => fitT.nil⟩, Nat.le_refl _, by simp, fun q hq => ?_⟩, (fun q hq => by rw [hq]; simp), (fun r hr => by cases hr), Can.nil⟩
  rcases hq with h | h | ⟨k, h⟩
  · exact h
  · cases h
  · cases h
/-- what Apply answers and leaves -/
def AO (Y : World) (d : Nat) (Q : Nat → Prop) (L R : List Ro) (c : Int) (w' : World) : Prop :=
  (¬ (∀ r ∈ R, okR r) ∧ c = 1 ∧ Below Y.heap.size Y w') ∨
  ((∀ r ∈ R, okR r) ∧ ¬ (∀ k, fitT (tol (L ++ R) k)) ∧ c = 11 ∧ Below Y.heap.size Y w') ∨
  ((∀ r ∈ R, okR r) ∧ (∀ k, fitT (tol (L ++ R) k)) ∧ c = 0 ∧ Vq w' d (fun q => Q q ∨ (Y.heap.size ≤ q ∧ q < w'.heap.size)) (L ++ R) ∧ Fs Q Y w')
theorem ao_any {Y : World} {d : Nat} {Q : Nat → Prop} {L : List Ro} (hV : Vq Y d Q L) (hl : L.length ≤ 137438953472) {p : Option Addr} {N cR : Nat} {R : List Ro} (hN : R.length = N) (hN2 : N ≤ 8388608) (hR : Lies kR Y p R) (hc : Can R) :
    Calls Tryz.prog 16 #[.pointer (some ⟨d, 0, none⟩), .slice p N cR] Y fun e w' => ∃ c : Int, e = .returned (.int .i64 c) ∧ AO Y d Q L R c w' := by
  obtain ⟨B, n, mo, F, V, hD, hn, hB, hQ⟩ := hV.ex
  refine (apply_any hD hB hN hN2 hR hc.acc hc.amt (fun k => ?_) (by omega)).mono ?_
  · have h1 := ser_le (hD.ser k)
    have h2 := tol_len L k
    omega
  · have hap : (∀ k, fitT (tol L k ++ tol R k)) ↔ ∀ k, fitT (tol (L ++ R) k) := by
      constructor
      · intro h k; rw [tol_append]; exact h k
      · intro h k; rw [← tol_append]; exact h k
    rintro e w' (⟨h1, h3⟩ | ⟨h1, h2, ⟨mo', n', F', V', h3, h4, hm', hV'⟩, h5, h6, h7, h8, h9⟩)
    · rcases h1 with ⟨h1, rfl⟩ | ⟨h1, h2, rfl⟩
      · exact ⟨1, rfl, .inl ⟨h1, rfl, h3⟩⟩
      · exact ⟨11, rfl, .inr (.inl ⟨h1, fun h => h2 (hap.2 h), rfl, h3⟩)⟩
    · subst h2
      refine ⟨0, rfl, .inr (.inr ⟨h1, hap.1 h3.fit, rfl, ⟨⟨B, n', mo', F', V', ⟨h3.at', fun k => ?_, fun k => ?_⟩, ?_, Nat.le_trans hB h8, fun q hq => ?_⟩, fun q hq => ?_, ?_, hV.can.append hc⟩, ⟨h5, h6, h7, h8, fun q hq hn => ?_⟩⟩)⟩
      · show Ser (tol (L ++ R) k) _
        rw [tol_append]; exact h3.ser k
      · show fitT (tol (L ++ R) k)
        rw [tol_append]; exact h3.fit k
      · rw [List.length_append]; omega
      · rcases hq with rfl | hq | ⟨k, hq⟩
        · exact .inl hV.qd
        · rcases hm' with e | ⟨b, e, hb⟩
          · exact .inl (hQ q (.inr (.inl (by rw [← e]; exact hq))))
          · rw [e] at hq
            have := Option.some.inj hq
            subst this
            refine .inr ⟨hb, ?_⟩
            rcases h3.at'.2.2 with ⟨h, _⟩ | ⟨b', D, e', _, hA⟩
            · rw [h] at e; cases e
            · have e2 := Option.some.inj (e.symm.trans e')
              rw [e2]
              exact hA.map.lt
        · rcases hV' k q hq with h | h
          · exact .inl (hQ q (.inr (.inr ⟨k, h⟩)))
          · exact .inr ⟨h, (row_block (h3.at'.2.2.row k) hq).2.1⟩
      · rcases hq with hq | hq
        · exact Nat.lt_of_lt_of_le (hV.lt q hq) h8
        · exact hq.2
      · exact fun r hr => (List.mem_append.1 hr).elim (hV.ok r) (h1 r)
      · exact h9 q hq (fun e => hn (by rw [e]; exact hV.qd)) (fun k hk => hn (hQ q (.inr (.inr ⟨k, hk⟩)))) (fun hk => hn (hQ q (.inr (.inl hk))))
theorem AO.size {Y w' : World} {d : Nat} {Q : Nat → Prop} {L R : List Ro} {c : Int} (h : AO Y d Q L R c w') : Y.heap.size ≤ w'.heap.size := by
  rcases h with ⟨_, _, h⟩ | ⟨_, _, _, h⟩ | ⟨_, _, _, _, h⟩
  · exact h.size
  · exact h.size
  · exact h.size
theorem AO.far {Y w' : World} {d : Nat} {Q : Nat → Prop} {L R : List Ro} {c : Int} (h : AO Y d Q L R c w') {q : Nat} (hq : q < Y.heap.size) (hn : ¬ Q q) : w'.heap[q]? = Y.heap[q]? := by
  rcases h with ⟨_, _, h⟩ | ⟨_, _, _, h⟩ | ⟨_, _, _, _, h⟩
  · exact h.block q hq
  · exact h.block q hq
  · exact h.block q hq hn
theorem flat_mq (s : ByteArray) (L : List Mk) : kQ.flat (L.map (mq s)) = kD.flat (L.map fun m => (s, m)) := by
  rw [← flatQ, List.map_map]
  rfl
theorem state_vq {W : World} {d : Nat} {Q : Nat → Prop} {R : List Ro} (hV : Vq W d Q R) (hl : R.length ≤ 137438953472) :
    Calls Tryz.prog 18 #[.pointer (some ⟨d, 0, none⟩)] W fun e w' => QlO W (stR R) e w' := by
  obtain ⟨B, n, mo, F, V, hD, hn, hB, _⟩ := hV.ex
  refine (state_any hD.at' hB (by omega) (fun k hk => ?_) (fun ss hs => ?_)).mono ?_
  · obtain ⟨r, hr, rfl⟩ := fk_name (hD.ser k) hk
    have := hV.can.acc r hr
    have e : r.acc.data.toList.length = r.acc.size := by simp
    rw [e]
    unfold maxLen
    omega
  · have h1 := stl_le hD.ser ss
    have h2 := tol_sum R ss hs
    omega
  · rintro e w' ⟨ss, p, c, h1, h2, h3, h4, h5⟩
    have hst := stt_is (R := R) (L := stl F (srt ss)) ⟨F, ss, hD.ser, h1, h2, rfl⟩
    have hlen : (stR R).length = (stl F (srt ss)).length := by rw [← hst, List.length_map]
    unfold QlO
    rw [hlen]
    refine ⟨p, c, h3, ?_, h5⟩
    show w'.ownsRow W.heap.size 38 4 _ (stR R).length (kQ.flat (stR R))
    rw [hlen, ← hst, flatQ]
    exact h4
theorem at_vq {W : World} {d : Nat} {Q : Nat → Prop} {R : List Ro} (hV : Vq W d Q R) (hl : R.length ≤ 137438953472) {s : ByteArray} (hs : s.size < 4611686018427387904) (day : Int) :
    Calls Tryz.prog 24 #[.pointer (some ⟨d, 0, none⟩), .string s, .int .i64 day] W fun e w' => e = .returned (.int .i64 (blc (tol R s.data.toList) day)) ∧ Below W.heap.size W w' := by
  obtain ⟨B, n, mo, F, V, hD, hn, hB, _⟩ := hV.ex
  refine at_any hD.at' (by unfold maxLen; omega) (hD.ser _) ?_ day
  have h1 := ser_le (hD.ser s.data.toList)
  have h2 := tol_len R s.data.toList
  omega
theorem btw_vq {W : World} {d : Nat} {Q : Nat → Prop} {R : List Ro} (hV : Vq W d Q R) (hl : R.length ≤ 137438953472) {s : ByteArray} (hs : s.size < 4611686018427387904) (fr tt : Int) :
    Calls Tryz.prog 26 #[.pointer (some ⟨d, 0, none⟩), .string s, .int .i64 fr, .int .i64 tt] W fun e w' => QlO W ((btw (FR R s.data.toList) fr tt).map (mq s)) e w' := by
  obtain ⟨B, n, mo, F, V, hD, hn, hB, _⟩ := hV.ex
  have e := (FR_is R s.data.toList).uniq (hD.ser s.data.toList)
  rw [e]
  refine (btw_any hD.at' (by unfold maxLen; omega) (hD.ser _) ?_ fr tt).mono ?_
  · have h1 := ser_le (hD.ser s.data.toList)
    have h2 := tol_len R s.data.toList
    omega
  · rintro e w' ⟨p, c, rfl, h1, h2⟩
    have hlen : ((btw (F s.data.toList) fr tt).map (mq s)).length = (btw (F s.data.toList) fr tt).length := List.length_map ..
    unfold QlO
    rw [hlen]
    refine ⟨p, c, rfl, ?_, h2⟩
    show w'.ownsRow W.heap.size 38 4 _ _ _
    rw [hlen, flat_mq]
    exact h1
end Go.Proofs.YtmgnlgobkkfjhaaGreatDoor.Kg
/- The document's daily: From (8). -/
namespace Go.Proofs.YtmgnlgobkkfjhaaGreatDoor.Kg
open Go Go.RowKit Go.Shelf Go.ChangeShapes Go.WideShapes Go.ChangeAt Go.Maps
set_option linter.unusedVariables false
set_option linter.unusedSimpArgs false
set_option maxRecDepth 100000
set_option maxHeartbeats 8000000
attribute [local go_sem ↓] ld44_is
theorem ld38 {W : World} {b o : Nat} {x : Dq} (h : W.rangeAt b o x.vals) : (ld44 (.pointer (some ⟨b, o, none⟩))).run Tryz.prog W = .ok (.agg #[.string x.acc, .int .i64 x.day, .int .i64 x.chg, .int .i64 x.bal]) W :=
  run_loadAt_mid (P := Tryz.prog) W b o 38 x.vals _ h Tryz.underlying38 rfl size44
theorem eq38_ne {x y : Dq} (h : x ≠ y) (w : World) : (Op.equalIn 10000 38 (.agg #[.string x.acc, .int .i64 x.day, .int .i64 x.chg, .int .i64 x.bal]) (.agg #[.string y.acc, .int .i64 y.day, .int .i64 y.chg, .int .i64 y.bal])).run Tryz.prog w = .ok false w := by
  rw [run_equalIn_agg w 9999 38 _ _ st44 sh44]
  obtain ⟨f0, f1, f2, f3, hf⟩ : ∃ f0 f1 f2 f3, (Tryz.prog.fieldsOf 38).toList = [f0, f1, f2, f3] := by
    have h := congrArg List.length fl44
    rw [List.length_map] at h
    match hq : (Tryz.prog.fieldsOf 38).toList, h with
    | [a, b, c, d], _ => exact ⟨a, b, c, d, rfl⟩
  have h' := fl44
  rw [hf] at h' ⊢
  simp at h'
  by_cases h1 : x.acc = y.acc
  · by_cases h2 : x.day = y.day
    · by_cases h3 : x.chg = y.chg
      · have h4 : ¬ x.bal = y.bal := fun h4 => h (by cases x; cases y; simp at h1 h2 h3 h4; rw [h1, h2, h3, h4])
        simp [Op.eqFields, go_sem, h', Tryz.underlying9, Tryz.underlying2, Tryz.underlying3, h1, h2, h3, h4]
      · simp [Op.eqFields, go_sem, h', Tryz.underlying9, Tryz.underlying2, Tryz.underlying3, h1, h2, h3]
    · simp [Op.eqFields, go_sem, h', Tryz.underlying9, Tryz.underlying2, Tryz.underlying3, h1, h2]
  · have h4 := str_ne h1
    simp [Op.eqFields, go_sem, h', Tryz.underlying9, Tryz.underlying2, Tryz.underlying3, h4]
theorem by_tri (a b : List UInt8) : a < b ∨ a = b ∨ b < a := by
  by_cases h : a < b
  · exact .inl h
  · by_cases h2 : b < a
    · exact .inr (.inr h2)
    · exact .inr (.inl (List.le_antisymm h2 h))
/-- what the document's From answers -/
def FOut (W : World) (X : List Dq) (e : Ending) (w' : World) : Prop :=
  Below W.heap.size W w' ∧ ((¬ Good X ∧ e = .returned (.tuple #[.pointer none, .int .i64 80])) ∨ (Good X ∧ e = .returned (.tuple #[.pointer (some ⟨W.heap.size, 0, none⟩), .int .i64 0]) ∧ ∃ S, Rd w' W.heap.size S (X.map qR) ∧ ∀ q, S q → W.heap.size ≤ q))
/-- lists whose numbers and names can be -/
structure SmQ (X : List Dq) : Prop where
  few : X.length ≤ 1000000
  short : ∀ x ∈ X, x.acc.size ≤ 1048576
  num : ∀ x ∈ X, -9223372036854775808 ≤ x.chg ∧ x.chg ≤ 9223372036854775807
theorem rfrom_any {W : World} {p : Option Addr} {c : Nat} {X : List Dq} (hL : Lies kQ W p X) (hS : SmQ X) :
    Calls Tryz.prog 8 #[.slice p X.length c] W fun e w' => FOut W X e w' := by
  obtain ⟨n, hn⟩ : ∃ n, n = X.length := ⟨_, rfl⟩
  have hnb : n ≤ 1000000 := by have := hS.few; omega
  have dN := hide (rnew_any W)
  have HN := hide hn; have HL := hide hL; have HS := hide hS
  have hst := st44
  have hsh := sh44
  have heg := eg44
  rw [← hn]
  clear hn hL hS
  go_enter Tryz.func8, Tryz.ntmps8
  go_wp2_with fail
  refine (unhide dN).mono ?_
  rintro e w1 ⟨rfl, hw1⟩
  have HRD : Hid (Rd w1 W.heap.size (fun q => q = W.heap.size) []) := by rw [hw1]; exact Rd.new W
  have HB1 : Hid (Below W.heap.size W w1) := by rw [hw1]; exact bal (Below.refl _ _) _
  clear hw1 dN
  go_upto_region 4 with fail
  go_loopw [5, 6] (fun v5 v6 wr => ∃ (i : Nat) (p5 : Option Addr) (c5 : Nat), v6 = .int .i64 i ∧ v5 = .slice p5 i c5 ∧ i ≤ n ∧ Hid (Ml kR w1 wr v5 ((X.take i).map qR))) (fun _ v6 _ => n - (intOf v6).toNat)
  case atStart => exact ⟨0, none, 0, rfl, rfl, by omega, Ml.nil _ (Below.refl _ _)⟩
  case round =>
    obtain ⟨i, p5, c5, rfl, rfl, hi, hrel⟩ := hrel
    have hml := unhide hrel
    have hlen : ((X.take i).map qR).length = i := by rw [List.length_map, List.length_take, ← unhide HN]; omega
    have hbW : Below W.heap.size W wr := (unhide HB1).trans (hml.bel.mono (unhide HB1).size)
    by_cases hlt : i < n
    · have hiX : i < X.length := by rw [← unhide HN]; exact hlt
      obtain ⟨b, off, e, hbl, hr⟩ := (unhide HL).2 i hiX
      obtain ⟨x, hx⟩ : ∃ x, x = X[i] := ⟨_, rfl⟩
      rw [← hx] at hr
      have HXI : Hid (X[i]? = some x) := by rw [hx]; exact List.getElem?_eq_getElem hiX
      have g0 : W.cell? ⟨b, off + i * 4, none⟩ = some (.string x.acc) := hr 0 _ rfl
      have g1 : W.cell? ⟨b, off + i * 4 + 1, none⟩ = some (.int .i64 x.day) := hr 1 _ rfl
      have g2 : W.cell? ⟨b, off + i * 4 + 2, none⟩ = some (.int .i64 x.chg) := hr 2 _ rfl
      have tk : (X.take (i + 1)).map qR = (X.take i).map qR ++ [qR x] := by rw [List.take_succ_eq_append_getElem hiX, List.map_append, hx]; rfl
      have hI : (i : Int) < (n : Int) := by omega
      have hI0 : (0 : Int) ≤ (i : Int) := by omega
      obtain ⟨Y, hY⟩ : ∃ Y, Y = wr.drew := ⟨_, rfl⟩
      have bY : Below W.heap.size W Y := by rw [hY]; exact below_drewN hbW 1
      have mY : Ml kR w1 Y (.slice p5 i c5) ((X.take i).map qR) := by rw [hY]; exact hml.below (below_drewN (Below.refl _ _) 1)
      have HK : Hid (∀ Z, Below W.heap.size W Z → Z.cell? ⟨b, off + i * 4, none⟩ = some (.string x.acc) ∧ Z.cell? ⟨b, off + i * 4 + 1, none⟩ = some (.int .i64 x.day) ∧ Z.cell? ⟨b, off + i * 4 + 2, none⟩ = some (.int .i64 x.chg)) := fun Z hZ => ⟨keep1 hZ hbl g0, keep1 hZ hbl g1, keep1 hZ hbl g2⟩
      have y0 := unhide HK Y bY
      have y0a := unhide HK (Y.alloc (.cells #[.int .i64 0, .int .i64 0, .int .i64 x.day, .int .i64 0, .string ⟨#[]⟩, .string x.acc, .int .i64 x.chg, .string ⟨#[]⟩, .string ⟨#[]⟩] 74)) (bal bY _)
      obtain ⟨p8, c8, w8, hr8, hm8⟩ := mY.more kR_ok (by rw [hlen]; omega) (qR x) #[.int .i64 0, .int .i64 0, .int .i64 x.day, .int .i64 0, .string ⟨#[]⟩, .string x.acc, .int .i64 x.chg, .string ⟨#[]⟩, .string ⟨#[]⟩] rfl 66 74
      rw [hlen] at hr8 hm8
      rw [← tk] at hm8
      have b8 : Below W.heap.size W w8 := (unhide HB1).trans (hm8.bel.mono (unhide HB1).size)
      have z := unhide HK w8 b8
      obtain ⟨z0, z1, z2⟩ := z
      have z := unhide HK w8 b8
      have HR8 := hide hr8; have HM8 := hide hm8; have HB8 := hide b8
      have HPREV : Hid (∀ j x', X[j]? = some x' → w8.cell? ⟨b, off + j * 4, none⟩ = some (.string x'.acc) ∧ w8.cell? ⟨b, off + j * 4 + 1, none⟩ = some (.int .i64 x'.day)) := fun j x' hj => by
        have hjl := List.getElem?_eq_some_iff.1 hj
        obtain ⟨b', off', e', hbl', hr'⟩ := (unhide HL).2 j hjl.1
        rw [e] at e'
        injection e' with e'
        injection e' with e1 e2 e3
        subst e1 e2
        rw [hjl.2] at hr'
        exact ⟨keep1 b8 hbl (hr' 0 _ rfl), keep1 b8 hbl (hr' 1 _ rfl)⟩
      subst e
      clear hr hiX hx tk hrel hml hbW hlen bY mY hr8 hm8 b8 g0 g1 g2 hbl
      go_upto_region 6 with fail
      refine wp_region_last (n := 19) (S := fun X => X.cell? ⟨b, off + i * 4, none⟩ = some (.string x.acc) ∧ X.cell? ⟨b, off + i * 4 + 1, none⟩ = some (.int .i64 x.day) ∧ X.cell? ⟨b, off + i * 4 + 2, none⟩ = some (.int .i64 x.chg)) (by kernel_rfl) (by rw [← hY]; exact y0) (fun hHeld => ?_)
      rw [← hY] at hHeld ⊢
      clear hY
      refine tkW 0 ?_; refine tkW 1 ?_; refine tkW 2 ?_; refine tkW 3 ?_; refine tkW 4 ?_; refine tkS 5 ?_; refine tkW 6 ?_; refine tkW 7 ?_; refine tkW 8 ?_; refine tkW 9 ?_; refine tkS 10 ?_; refine tkW 11 ?_; refine tkW 12 ?_; refine tkW 13 ?_; refine tkW 14 ?_; refine tkS 15 ?_; refine tkW 16 ?_
      refine wpAnyL_one (i := 17) (by kernel_rfl) rfl (fun KK hK => ?_)
      go_simp
      refine hK.out _ _ y0a (fun hHeld => ?_)
      clear hK KK
      refine wpAnyL_one (i := 18) (by kernel_rfl) rfl (fun KK hK => ?_)
      refine step_append_run _ (by rfl) _ _ 66 (by rfl) _ _ _ _ (by rfl) (by rfl) (unhide HR8) ?_
      simp only [Act.put, List.setIfInBounds_toArray]
      refine hK.out _ _ z (fun hHeld => ?_)
      clear hK KK hHeld
      refine wpAnyL_past (i := 19) (by kernel_rfl) rfl (by kernel_rfl) (fun KK hK => ?_)
      go_simp
      refine hK.out _ _ ?_
      clear hK KK z y0 y0a HK
      refine wpAnyL_done (by kernel_rfl) ?_
      have HQ : Hid (∀ m, Ml kR w1 (w8.drewN m) (.slice p8 (i + 1) c8) ((X.take (i + 1)).map qR)) := fun m => (unhide HM8).below (below_drewN (Below.refl _ _) m)
      by_cases hi0 : i = 0
      · subst hi0
        go_wp2_with fail
        go_quiet (fail)
        go_wp2_with fail
        exact ⟨⟨0 + 1, p8, c8, by go_num, rfl, by omega, unhide HQ _⟩, by simp [intOf]; omega⟩
      · obtain ⟨j, hj⟩ : ∃ j, j = i - 1 := ⟨_, rfl⟩
        have hij : i = j + 1 := by omega
        have hjX : j < X.length := by rw [← unhide HN]; omega
        obtain ⟨x', hx'⟩ : ∃ x', X[j]? = some x' := ⟨_, List.getElem?_eq_getElem hjX⟩
        obtain ⟨z3, z4⟩ := unhide HPREV j x' hx'
        have HN9 : Hid (Good X → ordQ x' x) := fun hg => good_next hg hx' (by rw [← hij]; exact unhide HXI)
        have hgt : (0 : Int) < (i : Int) := by omega
        have hwr : IntKind.i64.wrap ((i : Int) - 1) = (j : Int) := by rw [IntKind.wrap_i64]; omega
        have hJ0 : (0 : Int) ≤ (j : Int) := by omega
        have hJ : (j : Int) < (n : Int) := by omega
        have hgN : 0 < i := by omega
        have hD2 : decide (0 < i) = true := decide_eq_true hgN
        have hD3 : decide ((0 : Int) < (i : Int)) = true := decide_eq_true hgt
        obtain ⟨xs, hxs⟩ : ∃ y, y = x.acc := ⟨_, rfl⟩
        obtain ⟨xd, hxd⟩ : ∃ y, y = x.day := ⟨_, rfl⟩
        obtain ⟨ys, hys⟩ : ∃ y, y = x'.acc := ⟨_, rfl⟩
        obtain ⟨yd, hyd⟩ : ∃ y, y = x'.day := ⟨_, rfl⟩
        rw [← hxs] at z0
        rw [← hxd] at z1
        rw [← hys] at z3
        rw [← hyd] at z4
        have HORD : Hid (Good X → ys.data.toList < xs.data.toList ∨ (ys = xs ∧ yd < xd)) := fun hg => by rw [hxs, hxd, hys, hyd]; exact unhide HN9 hg
        have HBAD : Hid (∀ m, ¬ Good X → FOut W X (.returned (.tuple #[.pointer none, .int .i64 80])) (w8.drewN m)) := fun m h => ⟨below_drewN (unhide HB8) m, .inl ⟨h, rfl⟩⟩
        clear hj hij hjX hx' hi0 HN9 HPREV hxs hxd hys hyd z2
        rcases by_tri xs.data.toList ys.data.toList with h | h | h
        · have hl1 : Op.bytesLess xs.toList ys.toList = true := by rw [str_lt, decide_eq_true h]
          have HO2 := hide (fun m => unhide HBAD m (fun hg => by
            rcases unhide HORD hg with h' | ⟨h', _⟩
            · exact List.lt_asymm h h'
            · rw [h'] at h; exact List.lt_irrefl _ h))
          clear h
          go_wp2_with fail
          go_quiet (fail)
          go_wp2_with fail
          go_ret2
          exact unhide HO2 _
        · have e : xs = ys := (acc_iff _ _).2 h
          have hl1 : Op.bytesLess xs.toList ys.toList = false := by rw [str_lt, decide_eq_false (by rw [e]; exact List.lt_irrefl _)]
          have hl2 : (xs.toList == ys.toList) = true := by rw [e]; simp
          by_cases hd : xd ≤ yd
          · have HO2 := hide (fun m => unhide HBAD m (fun hg => by
              rcases unhide HORD hg with h' | ⟨_, h'⟩
              · rw [h] at h'; exact List.lt_irrefl _ h'
              · omega))
            clear h e
            go_wp2_with fail
            go_quiet (fail)
            go_wp2_with fail
            go_ret2
            exact unhide HO2 _
          · clear h e
            go_wp2_with fail
            go_quiet (fail)
            go_wp2_with fail
            exact ⟨⟨i + 1, p8, c8, by go_num, rfl, by omega, unhide HQ _⟩, by simp [intOf]; omega⟩
        · have hl1 : Op.bytesLess xs.toList ys.toList = false := by rw [str_lt, decide_eq_false (List.lt_asymm h)]
          have hl2 : (xs.toList == ys.toList) = false := str_ne (fun e => by rw [e] at h; exact List.lt_irrefl _ h)
          clear h
          go_wp2_with fail
          go_quiet (fail)
          go_wp2_with fail
          exact ⟨⟨i + 1, p8, c8, by go_num, rfl, by omega, unhide HQ _⟩, by simp [intOf]; omega⟩
    · have hin : i = n := by omega
      have hI : ¬ (i : Int) < (n : Int) := by omega
      have eX : X.take i = X := by rw [hin, unhide HN, List.take_length]
      rw [eX] at hml hlen
      have hLR : Lies kR wr p5 (X.map qR) := own_lies kR_ok hlen (by have h := hml.row; rw [hlen] at h; exact h)
      have hRr := (unhide HRD).below hml.bel
      have hacc : ∀ r ∈ X.map qR, r.acc.size < 4611686018427387904 := fun r hr => by
        obtain ⟨y, hy, rfl⟩ := List.mem_map.1 hr
        have := (unhide HS).short y hy
        show y.acc.size < _
        omega
      have dA := hide (rapply_any (c := c5) hRr hLR (by rw [hlen]; simp; omega) hacc (fun r hr => by
        obtain ⟨y, hy, rfl⟩ := List.mem_map.1 hr
        exact (unhide HS).num y hy))
      rw [hlen] at dA
      have HBW := hide hbW; have HLEN := hide hlen
      clear hrel hml hlen eX hLR hRr hbW hacc
      have HIN := hide hin
      clear hin
      go_wp2_with fail
      refine (unhide dA).mono ?_
      rintro e w2 hO
      unfold ROut at hO
      rw [List.nil_append] at hO
      rcases hO with ⟨hno, rfl, hb2⟩ | ⟨hok, hno, rfl, hb2⟩ | ⟨hok, hsid, rfl, S2, hR2, hfr2, hS2⟩
      · have HO2 : Hid (∀ m, FOut W X (.returned (.tuple #[.pointer none, .int .i64 80])) (w2.drewN m)) := fun m => ⟨below_drewN ((unhide HBW).trans (hb2.mono (unhide HBW).size)) m, .inl ⟨fun hg => hno hg.1, rfl⟩⟩
        clear hno hb2
        go_wp2_with fail
        go_ret2
        exact unhide HO2 0
      · have HO2 : Hid (∀ m, FOut W X (.returned (.tuple #[.pointer none, .int .i64 80])) (w2.drewN m)) := fun m => ⟨below_drewN ((unhide HBW).trans (hb2.mono (unhide HBW).size)) m, .inl ⟨fun hg => hno ((fits_iff (fun r hr => (hok r hr).2.1)).2 hg.2.1), rfl⟩⟩
        clear hno hb2 hok
        go_wp2_with fail
        go_ret2
        exact unhide HO2 0
      · have hfit := (fits_iff (fun r hr => (hok r hr).2.1)).1 hsid
        have hb2 : Below W.heap.size W w2 := (unhide HBW).trans ⟨hfr2.os, hfr2.tape, hfr2.output, hfr2.size, fun q hq => hfr2.block q (Nat.lt_of_lt_of_le hq (unhide HBW).size) (by omega)⟩
        have hnew : ∀ q, S2 q → W.heap.size ≤ q := fun q hq => by
          rcases hS2 q hq with h | h
          · rw [h]; exact Nat.le_refl _
          · exact Nat.le_trans (unhide HBW).size h
        have dS := hide (rstate_any hR2 (FR_is _) hfit (fun r hr => okR_ne (hok r hr)))
        obtain ⟨T, hT⟩ : ∃ T, T = stR (X.map qR) := ⟨_, rfl⟩
        have dS : Hid (Calls Tryz.prog 20 #[.pointer (some ⟨W.heap.size, 0, none⟩)] w2 fun e w' => QlO w2 T e w') := by rw [hT]; exact unhide dS
        obtain ⟨t, ht⟩ : ∃ t, t = T.length := ⟨_, rfl⟩
        unfold QlO at dS
        rw [← ht] at dS
        have HGD : Hid (Good X ↔ T = X) := ⟨fun h => by rw [hT]; exact h.2.2, fun h => ⟨hok, hfit, by rw [← hT]; exact h⟩⟩
        have HR2 := hide hR2; have HB2 := hide hb2; have HNEW := hide hnew; have HT := hide ht
        clear hok hsid hR2 hfr2 hS2 hb2 hnew hT ht hfit
        go_upto_region 13 with (first | (go_at_call 20; refine (unhide dS).mono ?_; rintro e w3 ⟨p3, c3, rfl, hm3⟩))
        have hb3 : Below W.heap.size W w3 := (unhide HB2).trans (hm3.bel.mono (unhide HB2).size)
        have HB3 := hide hb3
        have HR3 := hide ((unhide HR2).below hm3.bel)
        have HL3 : Hid (Lies kQ w3 p3 T) := own_lies kQ_ok (unhide HT).symm (by have h := hm3.row; rw [← unhide HT] at h; exact h)
        have HLX := hide ((unhide HL).below hb3)
        clear hm3 hb3 dS
        by_cases htn : t = n
        · subst htn
          go_upto_region 16 with fail
          go_loopw [9] (fun v9 wr => ∃ (k m : Nat), v9 = .int .i64 k ∧ k ≤ t ∧ Hid (wr = w3.drewN m ∧ T.take k = X.take k)) (fun v9 _ => t - (intOf v9).toNat)
          case atStart => exact ⟨0, 0, rfl, by omega, rfl, rfl⟩
          case round =>
            obtain ⟨k, m, rfl, hk, hrel⟩ := hrel
            obtain ⟨hw, hpre⟩ := unhide hrel
            have HW := hide hw
            clear hw
            by_cases hkt : k < t
            · have hkT : k < T.length := by rw [← unhide HT]; exact hkt
              have hkX : k < X.length := by rw [← unhide HN]; exact hkt
              obtain ⟨ba, oa, ea, _, ra⟩ := (unhide HL3).2 k hkT
              obtain ⟨bb, ob, eb, _, rb⟩ := (unhide HLX).2 k hkX
              obtain ⟨ya, hya⟩ : ∃ y, y = T[k] := ⟨_, rfl⟩
              obtain ⟨yb, hyb⟩ : ∃ y, y = X[k] := ⟨_, rfl⟩
              rw [← hya] at ra
              rw [← hyb] at rb
              subst ea eb
              have hKI : (k : Int) < (t : Int) := by omega
              have hK0 : (0 : Int) ≤ (k : Int) := by omega
              have la : ∀ d', (ld44 (.pointer (some ⟨ba, oa + k * 4, none⟩))).run Tryz.prog (wr.drewN d') = .ok (.agg #[.string ya.acc, .int .i64 ya.day, .int .i64 ya.chg, .int .i64 ya.bal]) (wr.drewN d') := fun d' => by rw [unhide HW]; exact ld38 (x := ya) ra
              have lb : ∀ d', (ld44 (.pointer (some ⟨bb, ob + k * 4, none⟩))).run Tryz.prog (wr.drewN d') = .ok (.agg #[.string yb.acc, .int .i64 yb.day, .int .i64 yb.chg, .int .i64 yb.bal]) (wr.drewN d') := fun d' => by rw [unhide HW]; exact ld38 (x := yb) rb
              by_cases hyy : ya = yb
              · have heq : ∀ w, (Op.equalIn 10000 38 (.agg #[.string ya.acc, .int .i64 ya.day, .int .i64 ya.chg, .int .i64 ya.bal]) (.agg #[.string yb.acc, .int .i64 yb.day, .int .i64 yb.chg, .int .i64 yb.bal])).run Tryz.prog w = .ok true w := fun w => by rw [hyy]; exact eq44_same _ _ _ _ w
                have HPRE : Hid (T.take (k + 1) = X.take (k + 1)) := by
                  show _ = _
                  rw [List.take_succ_eq_append_getElem hkT, List.take_succ_eq_append_getElem hkX, hpre, ← hya, ← hyb, hyy]
                clear hrel hpre hkT hkX hya hyb hyy ra rb
                go_wp2_with fail
                go_quiet (fail)
                go_wp2_with fail
                refine ⟨⟨k + 1, m + nq, by go_num, by omega, ?_, unhide HPRE⟩, by simp [intOf]; omega⟩
                rw [unhide HW, drew_two]
              · have heq : ∀ w, (Op.equalIn 10000 38 (.agg #[.string ya.acc, .int .i64 ya.day, .int .i64 ya.chg, .int .i64 ya.bal]) (.agg #[.string yb.acc, .int .i64 yb.day, .int .i64 yb.chg, .int .i64 yb.bal])).run Tryz.prog w = .ok false w := eq38_ne hyy
                have HO2 : Hid (∀ d', FOut W X (.returned (.tuple #[.pointer none, .int .i64 80])) (wr.drewN d')) := fun d' => ⟨below_drewN (by rw [unhide HW]; exact below_drewN (unhide HB3) m) d', .inl ⟨fun hg => hyy (by
                  have := (unhide HGD).1 hg
                  rw [hya, hyb]
                  simp only [this]), rfl⟩⟩
                clear hrel hpre hkT hkX hya hyb hyy ra rb
                go_wp2_with fail
                go_quiet (fail)
                go_wp2_with fail
                go_ret2
                exact unhide HO2 _
            · have hkt' : ¬ (k : Int) < (t : Int) := by omega
              have hkk : k = t := by omega
              have HO2 : Hid (FOut W X (.returned (.tuple #[.pointer (some ⟨W.heap.size, 0, none⟩), .int .i64 0])) wr) := by
                rw [unhide HW]
                refine ⟨below_drewN (unhide HB3) m, .inr ⟨(unhide HGD).2 ?_, rfl, _, (unhide HR3).below (below_drewN (Below.refl _ _) m), unhide HNEW⟩⟩
                have e1 : T.take k = T := by rw [hkk, unhide HT, List.take_length]
                have e2 : X.take k = X := by rw [hkk, unhide HN, List.take_length]
                rw [← e1, hpre, e2]
              clear hrel hpre
              go_wp2_with fail
              go_ret2
              exact unhide HO2
        · have hne : ((t : Int) == (n : Int)) = false := by simp; omega
          have HO2 : Hid (FOut W X (.returned (.tuple #[.pointer none, .int .i64 80])) w3) := ⟨unhide HB3, .inl ⟨fun hg => htn (by rw [unhide HT, (unhide HGD).1 hg, unhide HN]), rfl⟩⟩
          go_wp2_with fail
          go_ret2
          exact unhide HO2
end Go.Proofs.YtmgnlgobkkfjhaaGreatDoor.Kg
