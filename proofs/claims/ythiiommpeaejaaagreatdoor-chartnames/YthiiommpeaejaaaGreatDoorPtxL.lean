/- The keeper's book: filled (60), grown (80). -/
import Derived.Test.YthiiommpeaejaaaGreatDoorPtxK
namespace Go.Proofs.YthiiommpeaejaaaGreatDoor
open Go Go.ChangeShapes Go.WideShapes Go.ChangeAt Go.RowKit
set_option linter.unusedVariables false
attribute [local go_sem] setCell_drewN alloc_drewN
/-- one page went on: the book, the rest, whose blocks there are -/
def Went (w w' : World) (bk m k : Nat) (R : Value) (p p' : Nat → Pg) : Prop :=
  BookAt w' bk m k R p' ∧ Rest w w' R p m ∧ ∀ i, i < m → ∀ q, (p' i).has q → (p i).has q ∨ w.heap.size ≤ q
theorem Went.refl {w : World} {bk m k : Nat} {R : Value} {p : Nat → Pg} (h : BookAt w bk m k R p) : Went w w bk m k R p p := ⟨h, Rest.refl _ _ _ _, fun _ _ _ hq => .inl hq⟩
theorem Went.trans {w w1 w' : World} {bk m k : Nat} {R : Value} {p p1 p' : Nat → Pg} (h : Went w w1 bk m k R p p1) (h' : Went w1 w' bk m k R p1 p') : Went w w' bk m k R p p' :=
  ⟨h'.1, h.2.1.trans h'.2.1 h.2.2, fun i hi q hq => by
    rcases h'.2.2 i hi q hq with h1 | h1
    · exact h.2.2 i hi q h1
    · exact .inr (Nat.le_trans h.2.1.size h1)⟩
theorem went_of {w w' : World} {bk m k i : Nat} {R : Value} {p : Nat → Pg} {P : Pg} (h : BookAt w bk m k R p) (hi : i < m) (hrow : w'.ownsRow 0 68 5 R m (pages (upd p i P) m)) (hok : P.OK w') (hz : w.heap.size ≤ w'.heap.size) (os : w'.os = w.os) (tp : w'.tape = w.tape) (ou : w'.output = w.output)
    (hfar : ∀ q, q < w.heap.size → R.ownBlock ≠ some q → ¬ (p i).has q → w'.heap[q]? = w.heap[q]?) (hhas : ∀ q, P.has q → (p i).has q ∨ w.heap.size ≤ q) (hlt : ∀ q, P.has q → q < w'.heap.size) : Went w w' bk m k R p (upd p i P) := by
  refine ⟨h.put hi hrow hok hz hfar hhas hlt, ⟨hz, os, tp, ou, fun q h1 h2 h3 => hfar q h1 h2 (h3 i hi)⟩, fun j hj q hq => ?_⟩
  by_cases e : j = i
  · subst e; rw [upd_same] at hq; exact hhas q hq
  · rw [upd_other _ _ _ _ e] at hq; exact .inl hq
theorem fill_page {w : World} {bk m k g6 c6 : Nat} {p : Nat → Pg} (h : BookAt w bk m k (.slice (some ⟨g6, 0, none⟩) m c6) p) (i : Nat) (hi : i < m) (hs : (p i).s = 0) :
    Calls Tryz.prog 28 #[.pointer (some ⟨g6, i * 5, none⟩)] w fun e w' => e = .returned (.tuple #[]) ∧ ∃ P, P.s = 1 ∧ Went w w' bk m k (.slice (some ⟨g6, 0, none⟩) m c6) p (upd p i P) := by
  obtain ⟨h1, h2, h4, h5, gw, cw, h6⟩ := (h.ok i hi).s0 hs
  have a0 := h.cell i hi 0 (by omega)
  have a3 := h.cell i hi 3 (by omega)
  have a4 := h.cell i hi 4 (by omega)
  have f4 := h.row.frozenAt (i * 5 + 4)
  simp only [Pg.cells, List.getElem?_cons_zero, List.getElem?_cons_succ, Nat.add_zero] at a0 a3 a4
  have hset : ({ p i with s := 1 } : Pg).cells = (p i).cells.set 4 (.bool true) := by simp [Pg.cells]
  have hhas : ∀ q, ({ p i with s := 1 } : Pg).has q → (p i).has q ∨ w.heap.size ≤ q := fun q hq => .inl hq
  have hlt : ∀ q, ({ p i with s := 1 } : Pg).has q → q < w.heap.size := fun q hq => (h.far i hi q hq).2.2
  rcases LShows.of_own h1 with ⟨hn0, hL⟩ | ⟨gb, cap, hL, hgl, hc⟩
  · rw [hL] at a0
    refine (fill_none g6 (i * 5) w a0 ⟨_, a4⟩ f4).mono ?_
    rintro e w' ⟨rfl, rfl⟩
    have hst := h.row.stored (i * 5 + 4) (.bool true)
    refine ⟨rfl, { p i with s := 1 }, rfl, went_of h hi ?_ ?_ hst.2.size rfl rfl rfl (fun q hq h7 _ => hst.2.block q hq (fun e => h7 (by rw [e]; rfl))) hhas (fun q hq => by have := hlt q hq; have := hst.2.size; omega)⟩
    · rw [← pages_set p i { p i with s := 1 } 4 (.bool true) (by omega) hset m hi]
      exact hst.1
    · refine ⟨(h.ok i hi).le, (h.ok i hi).idl, fun e => by simp at e, fun _ => ⟨?_, h2⟩, fun e => by simp at e, by simp⟩
      show World.ownsRow _ 0 9 1 (p i).L (p i).n (scells (mkS (p i).id) (p i).n)
      rw [hL, hn0]
      exact World.ownsRow_nil _ _ _ _
  · have hne : g6 ≠ gb := fun e => (h.far i hi gb (.inl (by rw [hL]; rfl))).2.1 (by rw [e]; rfl)
    rw [hL] at a0 h1
    refine (fill_some g6 (i * 5) gb (p i).n cap (p i).id (p i).f (h.ok i hi).le (h.ok i hi).idl w hne a0 a3 ⟨_, a4⟩ f4 hc (fun j _ => h1.frozenAt j) hgl h.tab (fun e => h.p3 i hi (.inl (by rw [hL, e]; rfl)))).mono ?_
    rintro e w' ⟨rfl, w1, hF, rfl⟩
    have hrow1 : w1.ownsRow 0 68 5 (.slice (some ⟨g6, 0, none⟩) m c6) m (pages p m) := row_far h.row (fun q hq => by injection hq with hq; have hq : g6 = q := hq; subst hq; exact hF.gr.block g6 (h.row.lt g6 rfl).2 (by simpa using hne))
    have hst := hrow1.stored (i * 5 + 4) (.bool true)
    have hz := Nat.le_trans hF.gr.size hst.2.size
    refine ⟨rfl, { p i with s := 1 }, rfl, went_of h hi ?_ ?_ hz (hst.2.os.trans hF.gr.os) (hst.2.tape.trans hF.gr.tape) (hst.2.output.trans hF.gr.output) (fun q hq h7 h8 => ?_) hhas (fun q hq => by have := hlt q hq; omega)⟩
    · rw [← pages_set p i { p i with s := 1 } 4 (.bool true) (by omega) hset m hi]
      exact hst.1
    · refine ⟨(h.ok i hi).le, (h.ok i hi).idl, fun e => by simp at e, fun _ => ⟨?_, h2⟩, fun e => by simp at e, by simp⟩
      show World.ownsRow _ 0 9 1 (p i).L (p i).n (scells (mkS (p i).id) (p i).n)
      rw [hL]
      exact row_far (hF.own h1) (fun q hq => by injection hq with hq; have hq : gb = q := hq; subst hq; exact Below.heap_setCell _ _ _ _ hne.symm)
    · rw [hst.2.block q (Nat.lt_of_lt_of_le hq hF.gr.size) (fun e => h7 (by rw [e]; rfl))]
      exact hF.gr.block q hq (fun e => h8 (.inl (by rw [hL, e]; rfl)))
theorem grow_page {w : World} {bk m k g6 c6 : Nat} {p : Nat → Pg} (h : BookAt w bk m k (.slice (some ⟨g6, 0, none⟩) m c6) p) (i : Nat) (hi : i < m) (hs : (p i).s = 1) :
    Calls Tryz.prog 29 #[.pointer (some ⟨g6, i * 5, none⟩)] w fun e w' => e = .returned (.tuple #[]) ∧ ∃ P, P.s = 2 ∧ Went w w' bk m k (.slice (some ⟨g6, 0, none⟩) m c6) p (upd p i P) := by
  obtain ⟨h1, h2⟩ := (h.ok i hi).s1 hs
  have a0 := h.cell i hi 0 (by omega)
  have a1 := h.cell i hi 1 (by omega)
  have a3 := h.cell i hi 3 (by omega)
  have f1 := h.row.frozenAt (i * 5 + 1)
  simp only [Pg.cells, List.getElem?_cons_zero, List.getElem?_cons_succ, Nat.add_zero] at a0 a1 a3
  have hgl6 := (h.row.lt g6 rfl).2
  have hset : ∀ v, ({ p i with s := 2, G := v } : Pg).cells = (p i).cells.set 1 v := fun v => by simp [Pg.cells, hs]
  have key : ∀ gb w' v, GrowAt w g6 (i * 5) gb (p i).n (p i).id 0 64 v w' → g6 ≠ gb → ((p i).L.ownBlock = some gb ∨ w.heap.size ≤ gb) → LShows w' (p i).L (p i).n (mkS (p i).id) → Went w w' bk m k (.slice (some ⟨g6, 0, none⟩) m c6) p (upd p i { p i with s := 2, G := v }) := by
    intro gb w' v hG hne hgb hls
    have hhas : ∀ q, ({ p i with s := 2, G := v } : Pg).has q → (p i).has q ∨ w.heap.size ≤ q := by
      intro q hq
      rcases hq with hq | hq | hq
      · exact .inl (.inl hq)
      · have hq : v.ownBlock = some q := hq
        rcases hG.at' with h' | h'
        · rw [h'] at hq
          injection hq with hq
          subst hq
          exact hgb.imp .inl id
        · exact .inr (h' q hq)
      · exact .inl (.inr (.inr hq))
    refine went_of h hi ?_ ?_ hG.size hG.os hG.tape hG.output (fun q hq h7 h8 => hG.far q hq (fun e => h7 (by rw [e]; rfl)) (fun e => ?_)) hhas (fun q hq => ?_)
    · rw [← pages_set p i _ 1 v (by omega) (hset v) m hi]
      refine ⟨by rw [List.length_set]; exact h.row.1, .inr ?_⟩
      rcases h.row.2 with ⟨h', _⟩ | ⟨g, c, cur, h', hb, hg, hc1, hc2, hsz, htk⟩
      · cases h'
      · injection h' with h' _ h2'
        injection h' with h'
        injection h' with h' _ _
        subst h' h2'
        obtain ⟨cur', h3, h4⟩ := hG.pobj 68 _ ⟨cur, hg, hsz⟩
        refine ⟨g6, c6, cur', rfl, hb, h3, hc1, hc2, h4, ?_⟩
        apply List.ext_getElem?
        intro j
        by_cases hj : j < m * 5
        · rw [List.getElem?_take_of_lt hj]
          have e1 : cur'.toList[j]? = w'.cell? ⟨g6, j, none⟩ := by simp [World.cell?, h3]
          rw [e1]
          by_cases hj1 : j = i * 5 + 1
          · subst hj1
            rw [hG.g, List.getElem?_set_self (by rw [pages_len]; omega)]
          · rw [hG.page j hj1, List.getElem?_set_ne (fun e => hj1 e.symm), h.row.cellAt j hj]
        · rw [List.getElem?_eq_none (by simp; omega), List.getElem?_eq_none (by rw [List.length_set, pages_len]; omega)]
    · refine ⟨(h.ok i hi).le, (h.ok i hi).idl, fun e => by simp at e, fun e => by simp at e, fun _ => ⟨hls, hG.own⟩, by simp⟩
    · subst e
      rcases hgb with h9 | h9
      · exact h8 (.inl h9)
      · omega
    · rcases hq with hq | hq | hq
      · have := (h.far i hi q (.inl hq)).2.2; have := hG.size; omega
      · exact (hG.own.lt q hq).2
      · have := (h.far i hi q (.inr (.inr hq))).2.2; have := hG.size; omega
  rcases LShows.of_own h1 with ⟨hn0, hL⟩ | ⟨gb, cap, hL, hgl, hc⟩
  · rw [hL] at a0
    refine (grow_none g6 (i * 5) (p i).id 0 (h.ok i hi).idl w (Nat.zero_le _) a0 ⟨_, a1⟩ f1 a3 h.tab (fun e => h.r3 (by rw [e]; rfl))).mono ?_
    rintro e w' ⟨rfl, v, hG⟩
    have hG' : GrowAt w g6 (i * 5) w.heap.size (p i).n (p i).id 0 64 v w' := by rw [hn0]; exact hG
    exact ⟨rfl, _, rfl, key w.heap.size w' v hG' (by omega) (.inr (Nat.le_refl _)) (.inl ⟨hn0, hL⟩)⟩
  · have hne : g6 ≠ gb := fun e => (h.far i hi gb (.inl (by rw [hL]; rfl))).2.1 (by rw [e]; rfl)
    rw [hL] at a0 h1
    refine (grow_some g6 (i * 5) gb (p i).n cap (p i).id 0 (h.ok i hi).idl (h.ok i hi).le w (Nat.zero_le _) hne hgl a0 ⟨_, a1⟩ f1 a3 h.tab ⟨fun e => h.r3 (by rw [e]; rfl), fun e => h.p3 i hi (.inl (by rw [hL, e]; rfl))⟩ h1).mono ?_
    rintro e w' ⟨rfl, v, hG⟩
    exact ⟨rfl, _, rfl, key gb w' v hG hne (.inl (by rw [hL]; rfl)) (.inr ⟨gb, cap, hL, by have := hG.size; omega, hG.lst⟩)⟩
theorem book_row {w : World} {bk m k : Nat} {R : Value} {p : Nat → Pg} (h : BookAt w bk m k R p) : ∃ pa pc, R = .slice pa m pc ∧ (0 < m → ∃ g6, pa = some ⟨g6, 0, none⟩) := by
  rcases h.row.2 with ⟨h1, h2⟩ | ⟨g, c, cur, h1, _⟩
  · exact ⟨none, 0, by rw [h1, h2], fun h => by omega⟩
  · exact ⟨_, c, h1, fun _ => ⟨g, rfl⟩⟩
set_option maxRecDepth 100000 in
set_option maxHeartbeats 4000000 in
theorem fill_book {w : World} {bk m k : Nat} {R : Value} {p : Nat → Pg} (h : BookAt w bk m k R p) (hm : m ≤ 96) : Calls Tryz.prog 34 #[.pointer (some ⟨bk, 0, none⟩)] w fun e w' => e = .returned (.tuple #[]) ∧ ∃ p', Went w w' bk m k R p p' ∧ ∀ i, i < m → (p' i).s ≠ 0 := by
  have HB := hide h
  obtain ⟨pa, pc, rfl, hpa⟩ := book_row h
  have HPA := hide hpa
  have hc1 := h.c1
  clear h hpa
  go_enter Tryz.func34, Tryz.ntmps34
  go_wp2_with fail
  go_loopw [2] (fun i wr => ∃ (j : Nat) (pr : Nat → Pg), j ≤ m ∧ i = .int .i64 (j : Int) ∧ Went w wr bk m k (.slice pa m pc) p pr ∧ ∀ i, i < j → (pr i).s ≠ 0) (fun i _ => m - (intOf i).toNat)
  case atStart => exact ⟨0, p, by omega, rfl, Went.refl (unhide HB), fun i hi => by omega⟩
  case round =>
    obtain ⟨j, pr, hj, rfl, hw, hd⟩ := hrel
    have hbr := hw.1
    have l1 := hbr.c1
    have HW := hide hw
    have HD := hide hd
    clear hc1 hw hd
    by_cases hlt : j < m
    · obtain ⟨g6, rfl⟩ := unhide HPA (by omega)
      have a4 := hbr.cell j hlt 4 (by omega)
      simp only [Pg.cells, List.getElem?_cons_zero, List.getElem?_cons_succ] at a4
      have hI : (j : Int) < (m : Int) := by omega
      have hI0 : (0 : Int) ≤ (j : Int) := by omega
      by_cases hs : (pr j).s = 0
      · have hfp := hide (fill_page hbr j hlt hs)
        have hd0 : decide (0 < (pr j).s) = false := by rw [hs]; rfl
        rw [hd0] at a4
        clear hbr hd0
        go_wp2_with fail
        refine (unhide hfp).mono ?_
        rintro e w2 ⟨rfl, P, hP, hw2⟩
        have HW2 := hide hw2
        clear hw2
        go_wp2_with fail
        refine ⟨⟨j + 1, upd pr j P, by omega, by go_num, (unhide HW).trans (unhide HW2), fun i hi => ?_⟩, by simp [intOf]; omega⟩
        by_cases e : i = j
        · subst e; rw [upd_same, hP]; omega
        · rw [upd_other _ _ _ _ e]; exact unhide HD i (by omega)
      · have hd0 : decide (0 < (pr j).s) = true := by simp; omega
        rw [hd0] at a4
        clear hbr hd0
        go_wp2_with fail
        refine ⟨⟨j + 1, pr, by omega, by go_num, unhide HW, fun i hi => ?_⟩, by simp [intOf]; omega⟩
        by_cases e : i = j
        · subst e; exact hs
        · exact unhide HD i (by omega)
    · have hjm : j = m := by omega
      subst hjm
      have hI : ¬ (j : Int) < (j : Int) := by omega
      clear hbr
      go_wp2_with fail
      go_end0
      exact ⟨rfl, pr, unhide HW, unhide HD⟩
set_option maxRecDepth 100000 in
set_option maxHeartbeats 4000000 in
theorem grow_book {w : World} {bk m k : Nat} {R : Value} {p : Nat → Pg} (h : BookAt w bk m k R p) (hm : m ≤ 96) (h0 : ∀ i, i < m → (p i).s ≠ 0) : Calls Tryz.prog 54 #[.pointer (some ⟨bk, 0, none⟩)] w fun e w' => e = .returned (.tuple #[]) ∧ ∃ p', Went w w' bk m k R p p' ∧ ∀ i, i < m → (p' i).s = 2 := by
  have HB := hide h
  have H0 := hide h0
  obtain ⟨pa, pc, rfl, hpa⟩ := book_row h
  have HPA := hide hpa
  have hc1 := h.c1
  clear h hpa h0
  go_enter Tryz.func54, Tryz.ntmps54
  go_wp2_with fail
  go_loopw [2] (fun i wr => ∃ (j : Nat) (pr : Nat → Pg), j ≤ m ∧ i = .int .i64 (j : Int) ∧ Went w wr bk m k (.slice pa m pc) p pr ∧ (∀ i, i < j → (pr i).s = 2) ∧ ∀ i, i < m → (pr i).s ≠ 0) (fun i _ => m - (intOf i).toNat)
  case atStart => exact ⟨0, p, by omega, rfl, Went.refl (unhide HB), fun i hi => by omega, unhide H0⟩
  case round =>
    obtain ⟨j, pr, hj, rfl, hw, hd, hn0⟩ := hrel
    have hbr := hw.1
    have l1 := hbr.c1
    have HW := hide hw
    have HD := hide hd
    have HN := hide hn0
    clear hc1 hw hd hn0
    by_cases hlt : j < m
    · obtain ⟨g6, rfl⟩ := unhide HPA (by omega)
      have a1 := hbr.cell j hlt 1 (by omega)
      simp only [Pg.cells, List.getElem?_cons_zero, List.getElem?_cons_succ] at a1
      have hI : (j : Int) < (m : Int) := by omega
      have hI0 : (0 : Int) ≤ (j : Int) := by omega
      by_cases hs : (pr j).s = 1
      · have hfp := hide (grow_page hbr j hlt hs)
        rw [((hbr.ok j hlt).s1 hs).2] at a1
        clear hbr
        go_wp2_with fail
        refine (unhide hfp).mono ?_
        rintro e w2 ⟨rfl, P, hP, hw2⟩
        have HW2 := hide hw2
        clear hw2
        go_wp2_with fail
        refine ⟨⟨j + 1, upd pr j P, by omega, by go_num, (unhide HW).trans (unhide HW2), fun i hi => ?_, fun i hi => ?_⟩, by simp [intOf]; omega⟩
        · by_cases e : i = j
          · subst e; rw [upd_same, hP]
          · rw [upd_other _ _ _ _ e]; exact unhide HD i (by omega)
        · by_cases e : i = j
          · subst e; rw [upd_same, hP]; omega
          · rw [upd_other _ _ _ _ e]; exact unhide HN i hi
      · have hs2 : (pr j).s = 2 := by have := unhide HN j hlt; have := (hbr.ok j hlt).s3; omega
        obtain ⟨g7, c7, hv7⟩ := own_open ((hbr.ok j hlt).s2 hs2).2 (by omega)
        rw [hv7] at a1
        obtain ⟨N, hN⟩ : ∃ N, N = (pr j).n + 64 := ⟨_, rfl⟩
        have hN0 : ¬ (N : Int) = 0 := by omega
        have hN1 : ¬ N = 0 := by omega
        rw [← hN] at a1
        clear hbr hN
        go_wp2_with fail
        refine ⟨⟨j + 1, pr, by omega, by go_num, unhide HW, fun i hi => ?_, unhide HN⟩, by simp [intOf]; omega⟩
        by_cases e : i = j
        · subst e; exact hs2
        · exact unhide HD i (by omega)
    · have hjm : j = m := by omega
      subst hjm
      have hI : ¬ (j : Int) < (j : Int) := by omega
      clear hbr
      go_wp2_with fail
      go_end0
      exact ⟨rfl, pr, unhide HW, unhide HD⟩
end Go.Proofs.YthiiommpeaejaaaGreatDoor
