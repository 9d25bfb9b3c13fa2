/- The book of notes: one more note; dropped (38). -/
import Derived.Test.YtpeohbkigkfcgaaKpA
namespace Go.Proofs.Ytpeohbkigkfcgaa
open Go Go.Shelf Go.ChangeShapes Go.WideShapes Go.ChangeAt Go.RowKit Go.Maps Go.Sort
set_option linter.unusedVariables false
theorem info77 : (Try.prog.info? 77).map (fun i => (i.zero, i.size, i.bytes)) = some (some (.agg #[.string ⟨#[]⟩, .slice none 0 0, .int .i64 0]), 3, 48) := by kernel_rfl
/-- rows of two types lie in two blocks -/
theorem rows_apart {W : World} {b b' e e' s s' n n' : Nat} {v v' : Value} {xs xs' : List Value} (h : W.ownsRow b e s v n xs) (h' : W.ownsRow b' e' s' v' n' xs') (hne : e ≠ e') {q : Nat} (hq : v.ownBlock = some q) : v'.ownBlock ≠ some q := fun hq' => by
  rcases h.2 with ⟨rfl, _⟩ | ⟨g, cap, cur, rfl, _, h1, _⟩
  · cases hq
  · rcases h'.2 with ⟨rfl, _⟩ | ⟨g', cap', cur', rfl, _, h2, _⟩
    · cases hq'
    · simp only [Value.ownBlock, Option.some.injEq] at hq hq'
      subst hq hq'
      rw [h1] at h2
      injection h2 with h2
      injection h2 with _ h2 _
      exact hne h2
/-- a note behind the others -/
theorem NoteC.snoc {W : World} {U : Nat → Prop} {l : Fs} {xs : List Value} (h : NoteC W U l xs) (hl : xs.length = l.length * 3) {k : List UInt8} {y : Fl} {p : Option Addr} {c : Nat} (hr : W.ownsRow 0 5 1 (.slice p y.bs.length c) y.bs.length (bcs y.bs)) (hU : ∀ q, (Value.slice p y.bs.length c).ownBlock = some q → U q) : NoteC W U (l ++ [(k, y)]) (xs ++ [encStr k, .slice p y.bs.length c, .int .i64 (y.sy : Int)]) := by
  intro i k' x hi
  rcases Nat.lt_or_ge i l.length with hlt | hge
  · rw [List.getElem?_append_left hlt] at hi
    obtain ⟨p1, c1, h1, h2, h3, h4⟩ := h i k' x hi
    refine ⟨p1, c1, ?_, ?_, ?_, h4⟩
    · rw [List.getElem?_append_left (by omega)]; exact h1
    · rw [List.getElem?_append_left (by omega)]; exact h2
    · rw [List.getElem?_append_left (by omega)]; exact h3
  · have hi' : i = l.length := by
      have := (List.getElem?_eq_some_iff.1 hi).1
      simp at this
      omega
    subst hi'
    rw [List.getElem?_append_right (Nat.le_refl _), Nat.sub_self] at hi
    simp only [List.getElem?_cons_zero, Option.some.injEq, Prod.mk.injEq] at hi
    obtain ⟨rfl, rfl⟩ := hi
    refine ⟨p, c, ?_, ?_, ?_, hr, hU⟩
    · rw [List.getElem?_append_right (by omega), hl, Nat.sub_self]; rfl
    · rw [List.getElem?_append_right (by omega), hl, show l.length * 3 + 1 - l.length * 3 = 1 by omega]; rfl
    · rw [List.getElem?_append_right (by omega), hl, show l.length * 3 + 2 - l.length * 3 = 2 by omega]; rfl
theorem one3k (k : List UInt8) (p : Option Addr) (m c : Nat) (y : Int) : ∀ u ∈ [encStr k, .slice p m c, .int .i64 y], u.oneCell' = true := by
  intro u hu
  simp only [List.mem_cons, List.not_mem_nil, or_false] at hu
  rcases hu with rfl | rfl | rfl <;> rfl
/-- one more note: an append -/
theorem wpList_append_note {w : World} {ops : Array Oper} {rest : List Oper} {o : Oper} {a : Act} {Q : Exit → Act → World → Prop} (hgd : o.guard = none) (s x : Operand)
    (ho : o.op = .call { callee := .builtin .append, args := #[s, x], argTypes := #[46, 46] })
    (v : Value) (U : Nat → Prop) (l : Fs) (hs : a.eval s = v) (hbk : BookAt w U v l) (hl : l.length ≤ 100) (B c0 : Nat) (hx : a.eval x = .slice (some ⟨B, 0, none⟩) 1 c0) (k : List UInt8) (y : Fl) (p : Option Addr) (c : Nat)
    (n0 : w.cell? ⟨B, 0, none⟩ = some (encStr k)) (n1 : w.cell? ⟨B, 1, none⟩ = some (.slice p y.bs.length c)) (n2 : w.cell? ⟨B, 2, none⟩ = some (.int .i64 (y.sy : Int)))
    (hr : w.ownsRow 0 5 1 (.slice p y.bs.length c) y.bs.length (bcs y.bs)) (hU : ∀ q, (Value.slice p y.bs.length c).ownBlock = some q → U q)
    (h : ∀ p' c' w', BookAt w' (fun q => U q ∨ (Value.slice p' (l.length + 1) c').ownBlock = some q) (.slice p' (l.length + 1) c') (l ++ [(k, y)]) → w.grownBy w' v.ownBlock → ((Value.slice p' (l.length + 1) c').ownBlock = v.ownBlock ∨ (Value.slice p' (l.length + 1) c').ownBlock = some w.heap.size) → wpList Try.prog ops Q rest (a.put o.dst (.slice p' (l.length + 1) c')) w') :
    wpList Try.prog ops Q (o :: rest) a w := by
  obtain ⟨i0, hi, hz, hz1, hz2⟩ := info_parts info77
  obtain ⟨xs, hb⟩ := hbk
  refine wpList_append_own_at _ hgd s x 46 ho 0 77 i0 _ 3 48 Try.underlying46 hi hz hz1 hz2 rfl (by decide) v l.length xs hs hb.row ⟨B, 0, none⟩ 1 c0 [encStr k, .slice p y.bs.length c, .int .i64 (y.sy : Int)] hx rfl (fun j u hj => ?_) (one3k _ _ _ _ _) (by unfold maxLen; omega) (by omega) (Nat.zero_le _) (fun v' w' h4 h5 _ h6 => ?_)
  · rw [Addr.add_mid, Nat.zero_add]
    match j, hj with
    | 0, hj => exact n0.trans hj
    | 1, hj => exact n1.trans hj
    | 2, hj => exact n2.trans hj
  · have hv : ∃ p' c', v' = .slice p' (l.length + 1) c' := by
      rcases h4.2 with ⟨_, h8⟩ | ⟨g, cap, cur, rfl, _⟩
      · omega
      · exact ⟨_, _, rfl⟩
    obtain ⟨p', c', rfl⟩ := hv
    have hkeep : ∀ (p1 : Option Addr) (m1 c1 : Nat) (bs : List UInt8), w.ownsRow 0 5 1 (.slice p1 m1 c1) m1 (bcs bs) → w'.ownsRow 0 5 1 (.slice p1 m1 c1) m1 (bcs bs) := fun p1 m1 c1 bs h7 => row_far h7 (fun q hq => h5.block q (h7.lt q hq).2 (fun e => rows_apart h7 hb.row (by decide) hq e.symm))
    refine h p' c' w' ⟨xs ++ [encStr k, .slice p y.bs.length c, .int .i64 (y.sy : Int)], ?_, ?_, fun q hq => .inr hq, fun q hq => hq.elim (fun h' => Nat.lt_of_lt_of_le (hb.lt q h') h5.size) (fun h' => (h4.lt q h').2)⟩ h5 h6
    · rw [List.length_append]
      exact h4
    · refine NoteC.snoc (fun i k' x hi' => ?_) hb.row.1 (hkeep _ _ _ _ hr) (fun q hq => .inl (hU q hq))
      obtain ⟨p1, c1, a1, a2, a3, a4, a5⟩ := hb.cs i k' x hi'
      exact ⟨p1, c1, a1, a2, a3, hkeep _ _ _ _ a4, fun q hq => .inl (a5 q hq)⟩
theorem del_take_ne {k : List UInt8} {l : Fs} {i : Nat} {k' : List UInt8} {x : Fl} (h : l[i]? = some (k', x)) (hne : k' ≠ k) : delF k (l.take (i + 1)) = delF k (l.take i) ++ [(k', x)] := by
  rw [List.take_add_one, h]
  simp [delF, hne]
theorem del_take_eq {k : List UInt8} {l : Fs} {i : Nat} {k' : List UInt8} {x : Fl} (h : l[i]? = some (k', x)) (he : k' = k) : delF k (l.take (i + 1)) = delF k (l.take i) := by
  rw [List.take_add_one, h]
  simp [delF, he]
theorem BookAt.mono {W : World} {U U' : Nat → Prop} {v : Value} {l : Fs} (h : BookAt W U v l) (hU : ∀ q, U q → U' q) (hl : ∀ q, U' q → q < W.heap.size) : BookAt W U' v l := by
  obtain ⟨xs, h⟩ := h
  refine ⟨xs, h.row, fun i k x hi => ?_, fun q hq => hU q (h.own q hq), hl⟩
  obtain ⟨p, c, h1, h2, h3, h4, h5⟩ := h.cs i k x hi
  exact ⟨p, c, h1, h2, h3, h4, fun q hq => hU q (h5 q hq)⟩
theorem book_nil {W : World} {U : Nat → Prop} (hl : ∀ q, U q → q < W.heap.size) : BookAt W U (.slice none 0 0) [] := ⟨[], World.ownsRow_nil _ _ _ _, (fun i k x hi => by simp at hi), (fun q hq => by cases hq), hl⟩
set_option maxRecDepth 100000 in
set_option maxHeartbeats 4000000 in
theorem dropped_ok {w : World} {U : Nat → Prop} {v : Value} {l : Fs} (h : BookAt w U v l) (hl : l.length ≤ 100) (s : ByteArray) :
    Calls Try.prog 38 #[v, .string s] w fun e w' => ∃ p c, e = .returned (.slice p (delF s.data.toList l).length c) ∧ ∃ U', BookAt w' U' (.slice p (delF s.data.toList l).length c) (delF s.data.toList l) ∧ (∀ q, U' q → U q ∨ w.heap.size ≤ q) ∧ Below w.heap.size w w' := by
  obtain ⟨pa, ca, rfl⟩ := h.form
  obtain ⟨L, hL⟩ : ∃ L, L = l.length := ⟨_, rfl⟩
  have HA := hide h
  have UL : Hid (∀ q, U q → q < w.heap.size) := h.lt
  rw [← hL] at hl HA ⊢
  have HL := hide hL
  clear hL h
  go_enter Try.func38, Try.ntmps38
  go_wp2_with fail
  go_loopw [5, 6] (fun vo u wr => ∃ (i : Nat) (U' : Nat → Prop), i ≤ L ∧ u = .int .i64 (i : Int) ∧ BookAt wr U' vo (delF s.data.toList (l.take i)) ∧ (∀ q, vo.ownBlock = some q → w.heap.size ≤ q) ∧ (∀ q, U q → U' q) ∧ (∀ q, U' q → U q ∨ w.heap.size ≤ q) ∧ Below w.heap.size w wr) (fun _ u _ => L - (intOf u).toNat)
  case atStart => exact ⟨0, U, Nat.zero_le _, rfl, book_nil (unhide UL), (fun q hq => by cases hq), fun q h => h, fun q h => .inl h, Below.refl _ _⟩
  case round =>
    obtain ⟨i, U', hi, rfl, hbo, hob, hUU, hU', hbr⟩ := hrel
    obtain ⟨po, co, rfl⟩ := hbo.form
    obtain ⟨M, hM⟩ : ∃ M, M = (delF s.data.toList (l.take i)).length := ⟨_, rfl⟩
    have hM1 : M ≤ 100 := by
      have h1 := len_del_le s.data.toList (l.take i)
      have h2 : (l.take i).length ≤ l.length := by rw [List.length_take]; omega
      have h3 := unhide HL
      omega
    rw [← hM] at hob
    have HBO := hide hbo; have HOB := hide hob; have HUU := hide hUU; have HU' := hide hU'; have HBR := hide hbr; have HM := hide hM
    by_cases hlt : i < L
    · have hkx : ∃ k x, l[i]? = some (k, x) := by
        have : i < l.length := by rw [← unhide HL]; exact hlt
        exact ⟨_, _, List.getElem?_eq_getElem this⟩
      obtain ⟨k, x, hkx⟩ := hkx
      obtain ⟨g, ca', p, c, ev, hgU, hg, a0, a1, a2, _, ra, hraU⟩ := (unhide HA).at hkx
      injection ev with ev eL ev3
      subst ev ev3
      clear eL
      have a0 := keep1 hbr hg a0
      have a1 := keep1 hbr hg a1
      have a2 := keep1 hbr hg a2
      have hra := own_below ra hbr
      have i0 : (0 : Int) ≤ (i : Int) := by omega
      have i1 : (i : Int) < (L : Int) := by omega
      by_cases hk : k = s.data.toList
      · have hss : (k == s.toList) = true := by rw [ByteArray.toList_eq, hk]; simp
        have hde := del_take_eq hkx hk
        have HDE := hide hde
        clear hbo hob hUU hU' hbr hM hk hde hkx ra hra hraU
        rw [← unhide HM]
        go_wp2_with fail
        exact ⟨⟨i + 1, U', by omega, by go_num, by rw [unhide HDE, unhide HM]; exact unhide HBO, unhide HOB, unhide HUU, unhide HU', unhide HBR⟩, by simp [intOf]; omega⟩
      · have hss : (k == s.toList) = false := by
          rw [ByteArray.toList_eq]
          simpa using hk
        have HDE := hide (del_take_ne hkx hk)
        have HB4 : Hid (∀ o, BookAt (wr.alloc o) U' (.slice po M co) (delF s.data.toList (l.take i))) := fun o => by rw [hM]; exact hbo.below (bal (Below.refl _ _) _)
        have HR4 : Hid (∀ o, (wr.alloc o).ownsRow 0 5 1 (.slice p x.bs.length c) x.bs.length (bcs x.bs)) := fun o => hra.alloc o
        have HRU : Hid (∀ q, (Value.slice p x.bs.length c).ownBlock = some q → U' q) := fun q hq => hUU q (hraU q hq)
        have hML : (delF s.data.toList (l.take i)).length ≤ 100 := by rw [← hM]; exact hM1
        have HML := hide hML
        clear hbo hob hUU hU' hbr hk hkx ra hra hraU hML
        rw [← hM]
        clear hM
        go_wp2_with (first | (at_builtin; refine wpList_append_note rfl _ _ rfl (.slice po M co) U' (delF s.data.toList (l.take i)) rfl (unhide HB4 _) (unhide HML) wr.heap.size 1 rfl k x p c (by rw [World.cell?_alloc_mark]; rfl) (by rw [World.cell?_alloc_mark]; rfl) (by rw [World.cell?_alloc_mark]; rfl) (unhide HR4 _) (unhide HRU) ?_; intro p5 c5 w5 b5 g5 o5; have B5 := hide b5; have G5 := hide g5; have O5 := hide o5; clear b5 g5 o5))
        have hz := (unhide HBR).size
        refine ⟨⟨i + 1, fun q => U' q ∨ (Value.slice p5 ((delF s.data.toList (l.take i)).length + 1) c5).ownBlock = some q, by omega, by go_num, by rw [unhide HDE]; exact unhide B5, fun q hq => ?_, fun q hq => .inl (unhide HUU q hq), fun q hq => ?_, ?_⟩, by simp [intOf]; omega⟩
        · rcases unhide O5 with e5 | e5
          · rw [e5] at hq
            exact unhide HOB q hq
          · rw [e5] at hq
            simp only [Option.some.injEq, World.size_alloc] at hq
            omega
        · rcases hq with hq | hq
          · exact unhide HU' q hq
          · refine .inr ?_
            rcases unhide O5 with e5 | e5
            · rw [e5] at hq
              exact unhide HOB q hq
            · rw [e5] at hq
              simp only [Option.some.injEq, World.size_alloc] at hq
              omega
        · exact Below.grown ((unhide HBR).trans ((bal (Below.refl _ _) _).mono hz)) (unhide G5) (by simp; omega) (fun j hj => unhide HOB j hj)
    · have j1 : ¬ (i : Int) < (L : Int) := by omega
      have hd : l.take i = l := List.take_of_length_le (by rw [← unhide HL]; omega)
      have HDD := hide hd
      clear hbo hob hUU hU' hbr hM hd
      go_wp2_with fail
      go_ret
      have hb := unhide HBO
      rw [unhide HDD] at hb ⊢
      exact ⟨_, _, rfl, U', hb, unhide HU', unhide HBR⟩
end Go.Proofs.Ytpeohbkigkfcgaa
