import Derived.Test.YtpeefmbdhkfhmaaGreatDoorW26
import Derived.Test.YtpeefmbdhkfhmaaGreatDoorW17
import Derived.Test.YtpeefmbdhkfhmaaGreatDoorW25
import Derived.Test.YtpeefmbdhkfhmaaGreatDoorW24
import Derived.Test.YtpeefmbdhkfhmaaGreatDoorW22
import Derived.Test.YtpeefmbdhkfhmaaGreatDoorW07
import Derived.Laws.StructEq
import Derived.ChangeKeysEq
/- sums: slices.Equal (17) at any two lists. -/
namespace Go.Proofs.YtpeefmbdhkfhmaaGreatDoor.Kg
open Go Go.RowKit Go.Shelf Go.ChangeShapes Go.WideShapes Go.ChangeAt Go.Maps
set_option linter.unusedVariables false
set_option linter.unusedSimpArgs false
set_option maxRecDepth 100000
set_option maxHeartbeats 8000000
attribute [local go_sem ↓] ld47_is
theorem ld38' {W : World} {b o : Nat} {x : Bl} (h : W.rangeAt b o x.vals) : (ld47 (.pointer (some ⟨b, o, none⟩))).run Tryz.prog W = .ok (.agg #[.string x.acc, .int .i64 x.own, .int .i64 x.rol]) W :=
  run_loadAt_mid (P := Tryz.prog) _ b o 38 x.vals _ h Tryz.underlying38 rfl size47
def EqOut (W : World) (T X : List Bl) (e : Ending) (w' : World) : Prop := ∃ b : Bool, e = .returned (.bool b) ∧ (b = true ↔ T = X) ∧ ∃ m, w' = W.drewN m
theorem EqOut.no {W w' : World} {T X : List Bl} (h : ¬ T = X) (m : Nat) (hw : w' = W.drewN m) : EqOut W T X (.returned (.bool false)) w' := ⟨false, rfl, ⟨fun h => (nomatch h), fun k => absurd k h⟩, m, hw⟩
theorem EqOut.yes {W w' : World} {T X : List Bl} (h : T = X) (m : Nat) (hw : w' = W.drewN m) : EqOut W T X (.returned (.bool true)) w' := ⟨true, rfl, ⟨fun _ => h, fun _ => rfl⟩, m, hw⟩
/-- slices.Equal at two lists of balances -/
theorem equal_bl {W : World} {p1 p2 : Option Addr} {c1 c2 : Nat} {T X : List Bl} (h1 : Lies kB W p1 T) (h2 : Lies kB W p2 X) (hT : T.length ≤ 549755813888000) :
    Calls Tryz.prog 17 #[.slice p1 T.length c1, .slice p2 X.length c2] W fun e w' => EqOut W T X e w' := by
  obtain ⟨t, ht⟩ : ∃ t, t = T.length := ⟨_, rfl⟩
  obtain ⟨n, hn⟩ : ∃ n, n = X.length := ⟨_, rfl⟩
  rw [← ht] at hT ⊢
  rw [← hn]
  have HL3 := hide h1; have HLX := hide h2; have HT := hide ht; have HN := hide hn
  have hst := st47
  have hsh := sh47
  have heg := eg47
  clear h1 h2 ht hn
  go_enter Tryz.func17, Tryz.ntmps17
  by_cases htn : t = n
  · subst htn
    go_wp2_with fail
    go_loopw [13] (fun v9 wr => ∃ (k m : Nat), v9 = .int .i64 k ∧ k ≤ t ∧ Hid (wr = W.drewN m ∧ T.take k = X.take k)) (fun v9 _ => t - (intOf v9).toNat)
    case atStart => exact ⟨0, 0, rfl, by omega, rfl, rfl⟩
    case round =>
      obtain ⟨k, m, rfl, hk, hrel⟩ := hrel
      obtain ⟨hw, hpre⟩ := unhide hrel
      have HW := hide hw
      clear hw
      by_cases hkt : k < t
      · have hkT : k < T.length := by rw [← unhide HT]; exact hkt
        have hkX : k < X.length := by rw [← unhide HN]; exact hkt
        obtain ⟨ba, oa, ea, _, ra⟩ := (unhide HL3).2 k hkT
        obtain ⟨bb, ob, eb, _, rb⟩ := (unhide HLX).2 k hkX
        obtain ⟨ya, hya⟩ : ∃ y, y = T[k] := ⟨_, rfl⟩
        obtain ⟨yb, hyb⟩ : ∃ y, y = X[k] := ⟨_, rfl⟩
        rw [← hya] at ra
        rw [← hyb] at rb
        subst ea eb
        have hKI : (k : Int) < (t : Int) := by omega
        have hK0 : (0 : Int) ≤ (k : Int) := by omega
        have la : ∀ d', (ld47 (.pointer (some ⟨ba, oa + k * 3, none⟩))).run Tryz.prog (wr.drewN d') = .ok (.agg #[.string ya.acc, .int .i64 ya.own, .int .i64 ya.rol]) (wr.drewN d') := fun d' => by rw [unhide HW]; exact ld38' (x := ya) ra
        have lb : ∀ d', (ld47 (.pointer (some ⟨bb, ob + k * 3, none⟩))).run Tryz.prog (wr.drewN d') = .ok (.agg #[.string yb.acc, .int .i64 yb.own, .int .i64 yb.rol]) (wr.drewN d') := fun d' => by rw [unhide HW]; exact ld38' (x := yb) rb
        by_cases hyy : ya = yb
        · have heq : ∀ w, (Op.equalIn 10000 38 (.agg #[.string ya.acc, .int .i64 ya.own, .int .i64 ya.rol]) (.agg #[.string yb.acc, .int .i64 yb.own, .int .i64 yb.rol])).run Tryz.prog w = .ok true w := fun w => by rw [hyy]; exact eq47_same _ _ _ w
          have HPRE : Hid (T.take (k + 1) = X.take (k + 1)) := by
            show _ = _
            rw [List.take_succ_eq_append_getElem hkT, List.take_succ_eq_append_getElem hkX, hpre, ← hya, ← hyb, hyy]
          clear hrel hpre hkT hkX hya hyb hyy ra rb
          go_wp2_with fail
          go_quiet (fail)
          go_wp2_with fail
          refine ⟨⟨k + 1, m + nq, by go_num, by omega, ?_, unhide HPRE⟩, by simp [intOf]; omega⟩
          rw [unhide HW, drew_two]
        · have heq : ∀ w, (Op.equalIn 10000 38 (.agg #[.string ya.acc, .int .i64 ya.own, .int .i64 ya.rol]) (.agg #[.string yb.acc, .int .i64 yb.own, .int .i64 yb.rol])).run Tryz.prog w = .ok false w := eq38_ne hyy
          have HO : Hid (¬ T = X) := fun this => hyy (by
            rw [hya, hyb]
            simp only [this])
          clear hrel hpre hkT hkX hya hyb hyy ra rb
          go_wp2_with fail
          go_quiet (fail)
          go_wp2_with fail
          go_ret
          exact EqOut.no (unhide HO) (m + nq) (by rw [unhide HW, drew_two])
      · have hkt' : ¬ (k : Int) < (t : Int) := by omega
        have hkk : k = t := by omega
        have HE : Hid (T = X) := by
          have e1 : T.take k = T := by rw [hkk, unhide HT, List.take_length]
          have e2 : X.take k = X := by rw [hkk, unhide HN, List.take_length]
          show T = X
          rw [← e1, hpre, e2]
        clear hrel hpre
        go_wp2_with fail
        go_ret
        exact EqOut.yes (unhide HE) m (unhide HW)
  · have hne : ((t : Int) == (n : Int)) = false := by simp; omega
    have HO : Hid (¬ T = X) := fun h => htn (by rw [unhide HT, unhide HN, h])
    go_wp2_with fail
    go_ret
    exact EqOut.no (unhide HO) 0 rfl
end Go.Proofs.YtpeefmbdhkfhmaaGreatDoor.Kg
/- sums: a view of the program and one of the document side by side. -/
namespace Go.Proofs.YtpeefmbdhkfhmaaGreatDoor.Kg
open Go Go.RowKit Go.Shelf Go.ChangeShapes Go.WideShapes Go.ChangeAt Go.Maps
set_option linter.unusedVariables false
set_option linter.unusedSimpArgs false
set_option maxRecDepth 100000
set_option maxHeartbeats 8000000
/-- what Apply leaves, with its error -/
def VwE (W : World) (d : Nat) (mo mr : Option Nat) (n : Nat) (L : Rows8) (R : List Ro) (e : Ending) (W' : World) : Prop :=
  (¬ (∀ r ∈ R, okRow r) ∧ e = .returned (.int .i64 1) ∧ Below W.heap.size W W') ∨
  ((∀ r ∈ R, okRow r) ∧ ¬ fits (L ++ rws R) ∧ e = .returned (.int .i64 11) ∧ Below W.heap.size W W') ∨
  ((∀ r ∈ R, okRow r) ∧ fits (L ++ rws R) ∧ e = .returned (.int .i64 0) ∧ ∃ mo' mr', View W' d mo' mr' (n + 7 * R.length) (L ++ rws R) ∧ Fr (Blk d mo mr) W W' ∧ ∀ k, Blk d mo' mr' k → Blk d mo mr k ∨ W.heap.size ≤ k)
theorem apply_exact {W : World} {d : Nat} {mo mr : Option Nat} {n : Nat} {L : Rows8} (h : View W d mo mr n L) (hn : n ≤ 1152921504606846976) {p : Option Addr} {cR : Nat} {R : List Ro} (hN : R.length ≤ 8388608) (hR : RowsAt W p R) (hpd : ∀ q, p = some ⟨q, 0, none⟩ → q ≠ d)
    (hacc : ∀ r ∈ R, r.acc.size < 4611686018427387904) (hamt : ∀ r ∈ R, -9223372036854775808 ≤ r.amt ∧ r.amt ≤ 9223372036854775807) :
    Calls Tryz.prog 16 #[.pointer (some ⟨d, 0, none⟩), .slice p R.length cR] W fun e W' => VwE W d mo mr n L R e W' := by
  have h1 := DEB_nonneg L
  have h2 := CRE_nonneg L
  refine (apply_any d mo mr n (own L) (roll ups L) (DEB L) (CRE L) W h.at' (fits_own h.ok) ⟨by omega, h.ok.1⟩ ⟨by omega, h.ok.2⟩ p R.length cR R rfl hN hn hR hpd hacc hamt).mono ?_
  rintro e W' (⟨hno, rfl, hb⟩ | ⟨hok, hno, rfl, hb⟩ | ⟨hok, hyes, rfl, hva⟩)
  · exact .inl ⟨hno, rfl, hb⟩
  · exact .inr (.inl ⟨hok, fun q => hno ((tw_iff _ _).2 q), rfl, hb⟩)
  · have hf := (tw_iff _ _).1 hyes
    obtain ⟨mo', mr', hs, hfr, hnew⟩ := hva
    refine .inr (.inr ⟨hok, hf, rfl, mo', mr', ⟨?_, hf, fun r hr => ?_⟩, hfr, hnew⟩)
    · rw [DEB_more, CRE_more] at hs
      have e1 : (fun k => IntKind.i64.wrap (own L k + own (rws R) k)) = own (L ++ rws R) := funext fun k => by
        rw [← own_append]; exact wrap_isA (fits_own hf k)
      have e2 : (fun k => IntKind.i64.wrap (roll ups L k + roll ups (rws R) k)) = roll ups (L ++ rws R) := funext fun k => by
        rw [← roll_append]; exact wrap_isA (fits_roll hf k)
      rw [e1, e2] at hs
      exact hs
    · rcases List.mem_append.1 hr with hr | hr
      · exact h.nm r hr
      · obtain ⟨q, hq, rfl⟩ := List.mem_map.1 hr
        exact ⟨(hok q hq).1, hacc q hq⟩
/-- a view of the program and one of the document that were told the same; F: the blocks where they lie -/
structure Tw (w : World) (d r n : Nat) (F : Nat → Prop) (Ns : List ByteArray) (As : List Int) : Prop where
  ex : ∃ mo mr S, View w d mo mr n (rw8 Ns As) ∧ Rd w r S Ns As ∧ (∀ k, Blk d mo mr k → F k) ∧ (∀ k, S k → F k) ∧ (∀ k, Blk d mo mr k → ¬ S k)
  lt : ∀ q, F q → q < w.heap.size
  nn : n ≤ 7 * Ns.length
theorem Tw.keep {w w' : World} {d r n : Nat} {F : Nat → Prop} {Ns : List ByteArray} {As : List Int} (h : Tw w d r n F Ns As) (hz : w.heap.size ≤ w'.heap.size) (hb : ∀ q, F q → w'.heap[q]? = w.heap[q]?) : Tw w' d r n F Ns As := by
  obtain ⟨mo, mr, S, hv, hr, h1, h2, h3⟩ := h.ex
  exact ⟨⟨mo, mr, S, hv.block (fun k hk => hb k (h1 k hk)), hr.keep hz (fun q hq => hb q (h2 q hq)), h1, h2, h3⟩, fun q hq => Nat.lt_of_lt_of_le (h.lt q hq) hz, h.nn⟩
theorem Tw.below {w w' : World} {d r n : Nat} {F : Nat → Prop} {Ns : List ByteArray} {As : List Int} (h : Tw w d r n F Ns As) (hb : Below w.heap.size w w') : Tw w' d r n F Ns As :=
  h.keep hb.size (fun q hq => hb.block q (h.lt q hq))
theorem Tw.fits {w : World} {d r n : Nat} {F : Nat → Prop} {Ns : List ByteArray} {As : List Int} (h : Tw w d r n F Ns As) : fits (rw8 Ns As) := by
  obtain ⟨mo, mr, S, hv, _⟩ := h.ex
  exact hv.ok
theorem Tw.named {w : World} {d r n : Nat} {F : Nat → Prop} {Ns : List ByteArray} {As : List Int} (h : Tw w d r n F Ns As) : named (rw8 Ns As) := by
  obtain ⟨mo, mr, S, hv, _⟩ := h.ex
  exact hv.nm
theorem rw8_append {Ns Ms : List ByteArray} {As Bs : List Int} (h : As.length = Ns.length) : rw8 (Ns ++ Ms) (As ++ Bs) = rw8 Ns As ++ rw8 Ms Bs := by
  unfold rw8
  rw [List.zip_append h.symm, List.map_append]
theorem rws_rw8 (R : List Ro) : rws R = rw8 (accR R) (amtR R) := by
  unfold rws rw8 accR amtR
  rw [List.zip_map', List.map_map]
  rfl
theorem flat_le6 {α β : Type} (f : α → List β) (m : Nat) : ∀ (l : List α), (∀ x ∈ l, (f x).length ≤ m) → (l.flatMap f).length ≤ m * l.length
  | [], _ => by simp
  | x :: l, h => by
    have h1 := flat_le6 f m l (fun y hy => h y (by simp [hy]))
    have h2 := h x (by simp)
    rw [List.flatMap_cons, List.length_append, List.length_cons, Nat.mul_add]
    omega
/-- State's list has at most six names a row -/
theorem held_len {L : Rows8} (hn : named L) {hs : List (List UInt8)} (hnd : hs.Nodup) (hm : ∀ k, k ∈ hs ↔ heldBy L k) : hs.length ≤ 6 * L.length := by
  refine Nat.le_trans (nodup_len hs (L.flatMap fun r => pathL r.1) hnd (fun k hk => ?_)) (flat_le6 _ 6 L (fun r _ => path_len r.1))
  obtain ⟨x, hx, hk⟩ := (hm k).1 hk
  have h1 := own_in L x hx
  rw [mem_nub] at h1
  obtain ⟨r, hr, rfl⟩ := List.mem_map.1 h1
  refine List.mem_flatMap.2 ⟨r, hr, ?_⟩
  unfold pathL
  rw [if_pos (hn r hr).1]
  exact hk
end Go.Proofs.YtpeefmbdhkfhmaaGreatDoor.Kg
/- sums: what both views tell. -/
namespace Go.Proofs.YtpeefmbdhkfhmaaGreatDoor.Kg
open Go Go.RowKit Go.Shelf Go.ChangeShapes Go.WideShapes Go.ChangeAt Go.Maps
set_option linter.unusedVariables false
set_option linter.unusedSimpArgs false
set_option maxRecDepth 100000
set_option maxHeartbeats 8000000
/-- how much names weigh -/
def mz (Ns : List ByteArray) : Nat := (Ns.map fun s => 4 + s.size).sum
theorem mz_append (A B : List ByteArray) : mz (A ++ B) = mz A + mz B := by simp [mz]
theorem mz_len : ∀ Ns : List ByteArray, 4 * Ns.length ≤ mz Ns
  | [] => by simp [mz]
  | s :: r => by
    have := mz_len r
    simp only [mz, List.map_cons, List.sum_cons, List.length_cons] at this ⊢
    omega
theorem mz_mem : ∀ {Ns : List ByteArray} {s : ByteArray}, s ∈ Ns → s.size ≤ mz Ns
  | [], _, h => by cases h
  | x :: r, s, h => by
    simp only [mz, List.map_cons, List.sum_cons]
    rcases List.mem_cons.1 h with rfl | h
    · omega
    · have := mz_mem h
      simp only [mz] at this
      omega
theorem sml_of {Ns : List ByteArray} (h : mz Ns ≤ 1048576) : Sml Ns := ⟨by have := mz_len Ns; omega, fun x hx => Nat.le_trans (mz_mem hx) h⟩
/-- the names above, as few as may be -/
def fewL (x : List UInt8) : List (List UInt8) := if 5 ≤ x.length then pathL x else (List.range (x.length + 1)).map fun j => x.take j
theorem fewL_len (x : List UInt8) : 9 * (fewL x).length ≤ 6 * (4 + x.length) := by
  unfold fewL
  split
  · have := path_len x
    omega
  · rw [List.length_map, List.length_range]
    omega
theorem fewL_mem {x k : List UInt8} (hn : nameL x = true) (h : k ∈ x :: ups x) : k ∈ fewL x := by
  unfold fewL
  split
  · unfold pathL
    rw [if_pos hn]
    exact h
  · rcases List.mem_cons.1 h with rfl | h
    · exact List.mem_map.2 ⟨k.length, by simp, by simp⟩
    · obtain ⟨j, hj, rfl⟩ := mem_ups.1 h
      have := lt_of_colon hj
      exact List.mem_map.2 ⟨j, List.mem_range.2 (by omega), rfl⟩
theorem flat_sum (f : List UInt8 × Int → List (List UInt8)) (h : ∀ r, 9 * (f r).length ≤ 6 * (4 + r.1.length)) : ∀ L : Rows8, 9 * (L.flatMap f).length ≤ 6 * (L.map fun r => 4 + r.1.length).sum
  | [] => by simp
  | r :: L => by
    have h1 := flat_sum f h L
    have h2 := h r
    rw [List.flatMap_cons, List.length_append, List.map_cons, List.sum_cons]
    omega
theorem held_sum {L : Rows8} (hn : named L) {hs : List (List UInt8)} (hnd : hs.Nodup) (hm : ∀ k, k ∈ hs ↔ heldBy L k) : 9 * hs.length ≤ 6 * (L.map fun r => 4 + r.1.length).sum := by
  refine Nat.le_trans (Nat.mul_le_mul_left 9 (nodup_len hs (L.flatMap fun r => fewL r.1) hnd (fun k hk => ?_))) (flat_sum _ (fun r => fewL_len r.1) L)
  obtain ⟨x, hx, hk⟩ := (hm k).1 hk
  have h1 := own_in L x hx
  rw [mem_nub] at h1
  obtain ⟨r, hr, rfl⟩ := List.mem_map.1 h1
  exact List.mem_flatMap.2 ⟨r, hr, fewL_mem (hn r hr).1 hk⟩
theorem rw8_sum : ∀ (Ns : List ByteArray) (As : List Int), As.length = Ns.length → ((rw8 Ns As).map fun r => 4 + r.1.length).sum = mz Ns
  | [], As, _ => by simp [rw8, mz]
  | s :: Ns, [], h => by simp at h
  | s :: Ns, a :: As, h => by
    have := rw8_sum Ns As (by simpa using h)
    simp only [rw8, mz, List.zip_cons_cons, List.map_cons, List.sum_cons] at this ⊢
    rw [this]
    simp
section
variable {w : World} {d r n : Nat} {F : Nat → Prop} {Ns : List ByteArray} {As : List Int}
def stT (Ns : List ByteArray) (As : List Int) : List Bl := stB Ns As (stN Ns As (accs Ns))
def trT (Ns : List ByteArray) (As : List Int) : List Cm := trL Ns As (accs Ns)
theorem rw8_len (h : As.length = Ns.length) : (rw8 Ns As).length = Ns.length := by
  unfold rw8
  rw [List.length_map, List.length_zip, h, Nat.min_self]
theorem Tw.len (h : Tw w d r n F Ns As) : As.length = Ns.length := by
  obtain ⟨mo, mr, S, hv, hr, _⟩ := h.ex
  exact hr.len
theorem Tw.fd (h : Tw w d r n F Ns As) : F d := by
  obtain ⟨mo, mr, S, hv, hr, h1, h2, h3⟩ := h.ex
  exact h1 d (.inl rfl)
theorem Tw.fr (h : Tw w d r n F Ns As) : F r := by
  obtain ⟨mo, mr, S, hv, hr, h1, h2, h3⟩ := h.ex
  exact h2 r hr.sd
theorem Tw.t24 (h : Tw w d r n F Ns As) : Calls Tryz.prog 24 #[.pointer (some ⟨d, 0, none⟩)] w fun e w' => e = .returned (.tuple #[.int .i64 (DEB (rw8 Ns As)), .int .i64 (CRE (rw8 Ns As))]) ∧ Below w.heap.size w w' := by
  obtain ⟨mo, mr, S, hv, hr, h1, h2, h3⟩ := h.ex
  refine (totals_any d mo mr n _ _ _ _ w hv.at').mono ?_
  rintro e w' ⟨rfl, m, rfl⟩
  exact ⟨rfl, below_drewN (Below.refl _ _) m⟩
theorem Tw.t25 (h : Tw w d r n F Ns As) : Calls Tryz.prog 25 #[.pointer (some ⟨r, 0, none⟩)] w fun e w' => e = .returned (.tuple #[.int .i64 (DEB (rw8 Ns As)), .int .i64 (CRE (rw8 Ns As))]) ∧ Below w.heap.size w w' := by
  obtain ⟨mo, mr, S, hv, hr, h1, h2, h3⟩ := h.ex
  have := rtotals_any hr
  rw [(sid_fits Ns As).1 h.fits] at this
  exact this
theorem Tw.t26 (h : Tw w d r n F Ns As) (s : ByteArray) (hs : s.size ≤ 1048576) : Calls Tryz.prog 26 #[.pointer (some ⟨d, 0, none⟩), .string s] w fun e w' => e = .returned (.int .i64 (own (rw8 Ns As) s.data.toList)) ∧ Below w.heap.size w w' := by
  obtain ⟨mo, mr, S, hv, hr, h1, h2, h3⟩ := h.ex
  refine (own_any s (by unfold maxLen; omega) d mo mr n _ _ _ _ w hv.at').mono ?_
  rintro e w' ⟨rfl, rfl⟩
  exact ⟨rfl, Below.refl _ _⟩
theorem Tw.t27 (h : Tw w d r n F Ns As) (s : ByteArray) : Calls Tryz.prog 27 #[.pointer (some ⟨r, 0, none⟩), .string s] w fun e w' => e = .returned (.int .i64 (own (rw8 Ns As) s.data.toList)) ∧ Below w.heap.size w w' := by
  obtain ⟨mo, mr, S, hv, hr, h1, h2, h3⟩ := h.ex
  have := rOwn_any hr s
  rw [own_fit h.fits] at this
  exact this
theorem Tw.t28 (h : Tw w d r n F Ns As) (s : ByteArray) (hs : s.size ≤ 1048576) : Calls Tryz.prog 28 #[.pointer (some ⟨d, 0, none⟩), .string s] w fun e w' => e = .returned (.int .i64 (roll ups (rw8 Ns As) s.data.toList)) ∧ Below w.heap.size w w' := by
  obtain ⟨mo, mr, S, hv, hr, h1, h2, h3⟩ := h.ex
  refine (roll_any s (by unfold maxLen; omega) d mo mr n _ _ _ _ w hv.at').mono ?_
  rintro e w' ⟨rfl, rfl⟩
  exact ⟨rfl, Below.refl _ _⟩
theorem Tw.t29 (h : Tw w d r n F Ns As) (s : ByteArray) (hs : s.size ≤ 1048576) : Calls Tryz.prog 29 #[.pointer (some ⟨r, 0, none⟩), .string s] w fun e w' => e = .returned (.int .i64 (roll ups (rw8 Ns As) s.data.toList)) ∧ Below w.heap.size w w' := by
  obtain ⟨mo, mr, S, hv, hr, h1, h2, h3⟩ := h.ex
  have := rroll_any hr s (by omega)
  rw [roll_fit h.fits h.named] at this
  exact this
theorem Tw.t18 (h : Tw w d r n F Ns As) (hl : mz Ns ≤ 1048576) : Calls Tryz.prog 18 #[.pointer (some ⟨d, 0, none⟩)] w fun e w' => ∃ p c, e = .returned (.slice p (stT Ns As).length c) ∧ Ml kB w w' (.slice p (stT Ns As).length c) (stT Ns As) ∧ (stT Ns As).length ≤ 900000 := by
  obtain ⟨mo, mr, S, hv, hr, h1, h2, h3⟩ := h.ex
  have hnn := h.nn
  have hmz := mz_len Ns
  refine (state_view hv (by omega)).mono ?_
  rintro e w' ⟨v, hs, rfl, hbal, hlen, hb⟩
  obtain ⟨hsl, hsf⟩ := state_same h.fits h.named hbal.nd hbal.mem
  have hle := held_sum h.named hbal.nd hbal.mem
  rw [rw8_sum _ _ h.len] at hle
  have hrow := hbal.row
  rw [hsf, hsl] at hrow
  obtain ⟨p5, c5, e5, _, _⟩ := row_slice hrow
  subst e5
  exact ⟨p5, c5, rfl, ⟨hrow, hb⟩, by show (stB _ _ _).length ≤ _; omega⟩
theorem Tw.t30 (h : Tw w d r n F Ns As) (hl : mz Ns ≤ 1048576) : Calls Tryz.prog 30 #[.pointer (some ⟨d, 0, none⟩)] w fun e w' => ∃ p c, e = .returned (.slice p (trT Ns As).length c) ∧ Ml kM w w' (.slice p (trT Ns As).length c) (trT Ns As) ∧ (trT Ns As).length ≤ 900000 := by
  obtain ⟨mo, mr, S, hv, hr, h1, h2, h3⟩ := h.ex
  have hnn := h.nn
  have hmz := mz_len Ns
  refine (trial_any d mo mr n (by omega) _ _ _ _ w hv.at' (fits_own h.fits) (named_own h.named)).mono ?_
  rintro e w' ⟨v, ss, rfl, hnd, hm, hlen, hrow, hb⟩
  obtain ⟨hsl, hsf⟩ := trial_same h.fits hnd hm
  have hle : ss.length ≤ (accs Ns).length := by
    have := nodup_len ss ((accs Ns).map (·.data.toList)) hnd (fun k hk => cover k ((hm k).1 hk))
    rw [List.length_map] at this
    exact this
  have hac := accs_len Ns
  rw [hsf, hsl] at hrow
  obtain ⟨p5, c5, e5, _, _⟩ := row_slice hrow
  subst e5
  exact ⟨p5, c5, rfl, ⟨hrow, hb⟩, by show (trL _ _ _).length ≤ _; omega⟩
theorem Tw.t20 (h : Tw w d r n F Ns As) (hS : Sml Ns) : Calls Tryz.prog 20 #[.pointer (some ⟨r, 0, none⟩)] w fun e w' => ∃ p c, e = .returned (.slice p (stT Ns As).length c) ∧ Ml kB w w' (.slice p (stT Ns As).length c) (stT Ns As) := by
  obtain ⟨mo, mr, S, hv, hr, h1, h2, h3⟩ := h.ex
  exact rstate_any hr hS
theorem Tw.t33 (h : Tw w d r n F Ns As) : Calls Tryz.prog 33 #[.pointer (some ⟨r, 0, none⟩)] w fun e w' => ∃ p c, e = .returned (.slice p (trT Ns As).length c) ∧ Ml kM w w' (.slice p (trT Ns As).length c) (trT Ns As) := by
  obtain ⟨mo, mr, S, hv, hr, h1, h2, h3⟩ := h.ex
  exact rtrial_any hr
end
end Go.Proofs.YtpeefmbdhkfhmaaGreatDoor.Kg
/- sameBalances (31), sameColumns (32) at lists that hold the same. -/
namespace Go.Proofs.YtpeefmbdhkfhmaaGreatDoor.Kg
open Go Go.RowKit Go.Shelf Go.ChangeShapes Go.WideShapes Go.ChangeAt Go.Maps
set_option linter.unusedVariables false
set_option linter.unusedSimpArgs false
set_option maxRecDepth 100000
set_option maxHeartbeats 8000000
attribute [local go_sem ↓] ld47_is

/-- sameBalances at two lists that hold the same -/
theorem same31 {W : World} {p1 p2 : Option Addr} {c1 c2 : Nat} {T : List Bl} (h1 : Lies kB W p1 T) (h2 : Lies kB W p2 T) (hT : T.length ≤ 549755813888000) :
    Calls Tryz.prog 31 #[.slice p1 T.length c1, .slice p2 T.length c2] W fun e w' => e = .returned (.bool true) ∧ ∃ m, w' = W.drewN m := by
  obtain ⟨t, ht⟩ : ∃ t, t = T.length := ⟨_, rfl⟩
  rw [← ht] at hT ⊢
  have HL3 := hide h1; have HLX := hide h2; have HT := hide ht
  have hst := st47
  have hsh := sh47
  have heg := eg47
  clear h1 h2 ht
  go_enter Tryz.func31, Tryz.ntmps31
  go_wp2_with fail
  go_loopw [5] (fun v9 wr => ∃ (k m : Nat), v9 = .int .i64 k ∧ k ≤ t ∧ Hid (wr = W.drewN m)) (fun v9 _ => t - (intOf v9).toNat)
  case atStart => exact ⟨0, 0, rfl, by omega, rfl⟩
  case round =>
    obtain ⟨k, m, rfl, hk, HW⟩ := hrel
    by_cases hkt : k < t
    · have hkT : k < T.length := by rw [← unhide HT]; exact hkt
      obtain ⟨ba, oa, ea, _, ra⟩ := (unhide HL3).2 k hkT
      obtain ⟨bb, ob, eb, _, rb⟩ := (unhide HLX).2 k hkT
      obtain ⟨ya, hya⟩ : ∃ y, y = T[k] := ⟨_, rfl⟩
      rw [← hya] at ra rb
      subst ea eb
      have hKI : (k : Int) < (t : Int) := by omega
      have hK0 : (0 : Int) ≤ (k : Int) := by omega
      have la : ∀ d', (ld47 (.pointer (some ⟨ba, oa + k * 3, none⟩))).run Tryz.prog (wr.drewN d') = .ok (.agg #[.string ya.acc, .int .i64 ya.own, .int .i64 ya.rol]) (wr.drewN d') := fun d' => by rw [unhide HW]; exact ld38' (x := ya) ra
      have lb : ∀ d', (ld47 (.pointer (some ⟨bb, ob + k * 3, none⟩))).run Tryz.prog (wr.drewN d') = .ok (.agg #[.string ya.acc, .int .i64 ya.own, .int .i64 ya.rol]) (wr.drewN d') := fun d' => by rw [unhide HW]; exact ld38' (x := ya) rb
      have heq := eq47_same ya.acc ya.own ya.rol
      clear hkT hya ra rb
      go_wp2_with fail
      go_quiet (fail)
      go_wp2_with fail
      refine ⟨⟨k + 1, m + nq, by go_num, by omega, ?_⟩, by simp [intOf]; omega⟩
      show _ = _
      rw [unhide HW, drew_two]
    · have hkt' : ¬ (k : Int) < (t : Int) := by omega
      have hkk : k = t := by omega
      subst hkk
      go_wp2_with fail
      go_ret
      exact ⟨rfl, m, unhide HW⟩

def ldC (x : Value) : Sem Value := Instr.loadAt 123 x
theorem ldC_is (x : Value) : Instr.loadAt 123 x = ldC x := rfl
theorem sizeC : (Tryz.prog.info? 123).map (·.size) = some 3 := by kernel_rfl
theorem stC : Tryz.prog.underlying 123 = some (.struct (Tryz.prog.fieldsOf 123)) := by kernel_rfl
theorem shC : Tryz.prog.stoodInHeld 123 = false := by kernel_rfl
theorem egC : Tryz.prog.eqGuardType Tryz.prog.depth 123 = false := by kernel_rfl
theorem flC : (Tryz.prog.fieldsOf 123).toList.map (fun f => (f.type, f.offset, f.name == "_")) = [(9, 0, false), (2, 1, false), (2, 2, false)] := by kernel_rfl
theorem eqC_same (s : ByteArray) (x y : Int) (w : World) : (Op.equalIn 10000 123 (.agg #[.string s, .int .i64 x, .int .i64 y]) (.agg #[.string s, .int .i64 x, .int .i64 y])).run Tryz.prog w = .ok true w := by
  rw [run_equalIn_agg w 9999 123 _ _ stC shC]
  obtain ⟨f0, f1, f2, hf⟩ : ∃ f0 f1 f2, (Tryz.prog.fieldsOf 123).toList = [f0, f1, f2] := by
    have h := congrArg List.length flC
    rw [List.length_map] at h
    match hq : (Tryz.prog.fieldsOf 123).toList, h with
    | [a, b, c], _ => exact ⟨a, b, c, rfl⟩
  have h := flC
  rw [hf] at h ⊢
  simp at h
  simp [Op.eqFields, go_sem, h, Tryz.underlying9, Tryz.underlying2]
theorem ldC_run {W : World} {b o : Nat} {x : Cm} (h : W.rangeAt b o x.vals) : (ldC (.pointer (some ⟨b, o, none⟩))).run Tryz.prog W = .ok (.agg #[.string x.acc, .int .i64 x.deb, .int .i64 x.cre]) W :=
  run_loadAt_mid (P := Tryz.prog) _ b o 123 x.vals _ h Tryz.underlying123 rfl sizeC
attribute [local go_sem ↓] ldC_is

/-- sameColumns at two lists that hold the same -/
theorem same32 {W : World} {p1 p2 : Option Addr} {c1 c2 : Nat} {T : List Cm} (h1 : Lies kM W p1 T) (h2 : Lies kM W p2 T) (hT : T.length ≤ 549755813888000) :
    Calls Tryz.prog 32 #[.slice p1 T.length c1, .slice p2 T.length c2] W fun e w' => e = .returned (.bool true) ∧ ∃ m, w' = W.drewN m := by
  obtain ⟨t, ht⟩ : ∃ t, t = T.length := ⟨_, rfl⟩
  rw [← ht] at hT ⊢
  have HL3 := hide h1; have HLX := hide h2; have HT := hide ht
  have hst := stC
  have hsh := shC
  have heg := egC
  clear h1 h2 ht
  go_enter Tryz.func32, Tryz.ntmps32
  go_wp2_with fail
  go_loopw [5] (fun v9 wr => ∃ (k m : Nat), v9 = .int .i64 k ∧ k ≤ t ∧ Hid (wr = W.drewN m)) (fun v9 _ => t - (intOf v9).toNat)
  case atStart => exact ⟨0, 0, rfl, by omega, rfl⟩
  case round =>
    obtain ⟨k, m, rfl, hk, HW⟩ := hrel
    by_cases hkt : k < t
    · have hkT : k < T.length := by rw [← unhide HT]; exact hkt
      obtain ⟨ba, oa, ea, _, ra⟩ := (unhide HL3).2 k hkT
      obtain ⟨bb, ob, eb, _, rb⟩ := (unhide HLX).2 k hkT
      obtain ⟨ya, hya⟩ : ∃ y, y = T[k] := ⟨_, rfl⟩
      rw [← hya] at ra rb
      subst ea eb
      have hKI : (k : Int) < (t : Int) := by omega
      have hK0 : (0 : Int) ≤ (k : Int) := by omega
      have la : ∀ d', (ldC (.pointer (some ⟨ba, oa + k * 3, none⟩))).run Tryz.prog (wr.drewN d') = .ok (.agg #[.string ya.acc, .int .i64 ya.deb, .int .i64 ya.cre]) (wr.drewN d') := fun d' => by rw [unhide HW]; exact ldC_run (x := ya) ra
      have lb : ∀ d', (ldC (.pointer (some ⟨bb, ob + k * 3, none⟩))).run Tryz.prog (wr.drewN d') = .ok (.agg #[.string ya.acc, .int .i64 ya.deb, .int .i64 ya.cre]) (wr.drewN d') := fun d' => by rw [unhide HW]; exact ldC_run (x := ya) rb
      have heq := eqC_same ya.acc ya.deb ya.cre
      clear hkT hya ra rb
      go_wp2_with fail
      go_quiet (fail)
      go_wp2_with fail
      refine ⟨⟨k + 1, m + nq, by go_num, by omega, ?_⟩, by simp [intOf]; omega⟩
      show _ = _
      rw [unhide HW, drew_two]
    · have hkt' : ¬ (k : Int) < (t : Int) := by omega
      have hkk : k = t := by omega
      subst hkk
      go_wp2_with fail
      go_ret
      exact ⟨rfl, m, unhide HW⟩
end Go.Proofs.YtpeefmbdhkfhmaaGreatDoor.Kg
