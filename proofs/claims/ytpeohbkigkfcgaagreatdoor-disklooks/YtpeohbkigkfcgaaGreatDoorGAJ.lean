import Derived.Test.YtpeohbkigkfcgaaGreatDoorGAI
set_option linter.unusedVariables false
set_option linter.unusedSimpArgs false
set_option maxRecDepth 100000
set_option maxHeartbeats 16000000
namespace Go.Proofs.YtpeohbkigkfcgaaGreatDoor.Kt
open Go Go.ChangeShapes Go.WideShapes Go.ChangeAt Go.RowKit
attribute [local go_sem] setCell_drewN alloc_drewN
def Went (w w' : World) (bk m : Nat) (R : Value) (p p' : Nat -> Pg) : Prop :=
 KindAt w' bk m R p' /\ Rest w w' R p m /\ ∀ i, i < m -> ∀ q, (p' i).has q -> (p i).has q \/ w.heap.size <= q
theorem Went.refl {w : World} {bk m : Nat} {R : Value} {p : Nat -> Pg} (h : KindAt w bk m R p) : Went w w bk m R p p := ⟨h, Rest.refl _ _ _ _, fun _ _ _ hq => .inl hq⟩
theorem Went.trans {w w1 w' : World} {bk m : Nat} {R : Value} {p p1 p' : Nat -> Pg} (h : Went w w1 bk m R p p1) (h' : Went w1 w' bk m R p1 p') : Went w w' bk m R p p' :=
 ⟨h'.1, h.2.1.trans h'.2.1 h.2.2, fun i hi q hq => by
  rcases h'.2.2 i hi q hq with h1 | h1
  ·exact h.2.2 i hi q h1
  ·exact .inr (Nat.le_trans h.2.1.size h1)⟩
theorem went_of {w w' : World} {bk m i : Nat} {R : Value} {p : Nat -> Pg} {P : Pg} (h : KindAt w bk m R p) (hi : i < m) (hrow : w'.ownsRow 0 122 5 R m (pages (upd p i P) m)) (hok : P.OK w') (hz : w.heap.size <= w'.heap.size) (os : w'.os = w.os) (tp : w'.tape = w.tape) (ou : w'.output = w.output)
  (hfar : ∀ q, q < w.heap.size -> R.ownBlock ≠ some q -> ¬ (p i).has q -> w'.heap[q]? = w.heap[q]?) (hhas : ∀ q, P.has q -> (p i).has q \/ w.heap.size <= q) (hlt : ∀ q, P.has q -> q < w'.heap.size) : Went w w' bk m R p (upd p i P) := by
 refine ⟨h.put hi hrow hok hz hfar hhas hlt, ⟨hz, os, tp, ou, fun q h1 h2 h3 => hfar q h1 h2 (h3 i hi)⟩, fun j hj q hq => ?_⟩
 by_cases e : j = i
 ·subst e; rw [upd_same] at hq; exact hhas q hq
 ·rw [upd_other _ _ _ _ e] at hq; exact .inl hq
theorem fill_page {w : World} {bk m g6 c6 : Nat} {p : Nat -> Pg} (h : KindAt w bk m (.slice (some ⟨g6, 0, none⟩) m c6) p) (i : Nat) (hi : i < m) (hs : (p i).s = 0) :
  Calls Tryz.prog 157 #[.pointer (some ⟨g6, i * 5, none⟩)] w fun e w' => e = .returned (.tuple #[]) /\ ∃ P, P.s = 1 /\ Went w w' bk m (.slice (some ⟨g6, 0, none⟩) m c6) p (upd p i P) := by
 obtain ⟨h1, h2, h4, h5, gw, cw, h6⟩ := (h.ok i hi).s0 hs
 have a0 := h.cell i hi 0 (by omega)
 have a3 := h.cell i hi 3 (by omega)
 have a4 := h.cell i hi 4 (by omega)
 have f4 := h.row.frozenAt (i * 5 + 4)
 simp only [Pg.cells, List.getElem?_cons_zero, List.getElem?_cons_succ, Nat.add_zero] at a0 a3 a4
 have hset : ({ p i with s := 1 } : Pg).cells = (p i).cells.set 4 (.bool true) := by simp [Pg.cells]
 have hhas : ∀ q, ({ p i with s := 1 } : Pg).has q -> (p i).has q \/ w.heap.size <= q := fun q hq => .inl hq
 have hlt : ∀ q, ({ p i with s := 1 } : Pg).has q -> q < w.heap.size := fun q hq => (h.far i hi q hq).2.2
 rcases LShows.of_own h1 with ⟨hn0, hL⟩ | ⟨gb, cap, hL, hgl, hc⟩
 ·rw [hL] at a0
  refine (fill_none g6 (i * 5) w a0 ⟨_, a4⟩ f4).mono ?_
  rintro e w' ⟨rfl, rfl⟩
  have hst := h.row.stored (i * 5 + 4) (.bool true)
  refine ⟨rfl, { p i with s := 1 }, rfl, went_of h hi ?_ ?_ hst.2.size rfl rfl rfl (fun q hq h7 _ => hst.2.block q hq (fun e => h7 (by rw [e]; rfl))) hhas (fun q hq => by have := hlt q hq; have := hst.2.size; omega)⟩
  ·rw [<- pages_set p i { p i with s := 1 } 4 (.bool true) (by omega) hset m hi]
   exact hst.1
  ·refine ⟨(h.ok i hi).le, (h.ok i hi).idl, fun e => by simp at e, fun _ => ⟨?_, h2⟩, fun e => by simp at e, by simp⟩
   show World.ownsRow _ 0 9 1 (p i).L (p i).n (scells (mkS (p i).id) (p i).n)
   rw [hL, hn0]
   exact World.ownsRow_nil _ _ _ _
 ·have hne : g6 ≠ gb := fun e => (h.far i hi gb (.inl (by rw [hL]; rfl))).2.1 (by rw [e]; rfl)
  rw [hL] at a0 h1
  refine (fill_some g6 (i * 5) gb (p i).n cap (p i).id (p i).f (h.ok i hi).le (h.ok i hi).idl w hne a0 a3 ⟨_, a4⟩ f4 hc (fun j _ => h1.frozenAt j) hgl h.tab (fun e => h.p3 i hi (.inl (by rw [hL, e]; rfl)))).mono ?_
  rintro e w' ⟨rfl, w1, hF, rfl⟩
  have hrow1 : w1.ownsRow 0 122 5 (.slice (some ⟨g6, 0, none⟩) m c6) m (pages p m) := row_far h.row (fun q hq => by injection hq with hq; have hq : g6 = q := hq; subst hq; exact hF.gr.block g6 (h.row.lt g6 rfl).2 (by simpa using hne))
  have hst := hrow1.stored (i * 5 + 4) (.bool true)
  have hz := Nat.le_trans hF.gr.size hst.2.size
  refine ⟨rfl, { p i with s := 1 }, rfl, went_of h hi ?_ ?_ hz (hst.2.os.trans hF.gr.os) (hst.2.tape.trans hF.gr.tape) (hst.2.output.trans hF.gr.output) (fun q hq h7 h8 => ?_) hhas (fun q hq => by have := hlt q hq; omega)⟩
  ·rw [<- pages_set p i { p i with s := 1 } 4 (.bool true) (by omega) hset m hi]
   exact hst.1
  ·refine ⟨(h.ok i hi).le, (h.ok i hi).idl, fun e => by simp at e, fun _ => ⟨?_, h2⟩, fun e => by simp at e, by simp⟩
   show World.ownsRow _ 0 9 1 (p i).L (p i).n (scells (mkS (p i).id) (p i).n)
   rw [hL]
   exact row_far (hF.own h1) (fun q hq => by injection hq with hq; have hq : gb = q := hq; subst hq; exact Below.heap_setCell _ _ _ _ hne.symm)
  ·rw [hst.2.block q (Nat.lt_of_lt_of_le hq hF.gr.size) (fun e => h7 (by rw [e]; rfl))]
   exact hF.gr.block q hq (fun e => h8 (.inl (by rw [hL, e]; rfl)))
theorem grow_page {w : World} {bk m g6 c6 : Nat} {p : Nat -> Pg} (h : KindAt w bk m (.slice (some ⟨g6, 0, none⟩) m c6) p) (i : Nat) (hi : i < m) (hs : (p i).s = 1) :
  Calls Tryz.prog 177 #[.pointer (some ⟨g6, i * 5, none⟩)] w fun e w' => e = .returned (.tuple #[]) /\ ∃ P, P.s = 2 /\ Went w w' bk m (.slice (some ⟨g6, 0, none⟩) m c6) p (upd p i P) := by
 obtain ⟨h1, h2⟩ := (h.ok i hi).s1 hs
 have a0 := h.cell i hi 0 (by omega)
 have a1 := h.cell i hi 1 (by omega)
 have a3 := h.cell i hi 3 (by omega)
 have f1 := h.row.frozenAt (i * 5 + 1)
 simp only [Pg.cells, List.getElem?_cons_zero, List.getElem?_cons_succ, Nat.add_zero] at a0 a1 a3
 have hgl6 := (h.row.lt g6 rfl).2
 have hset : ∀ v, ({ p i with s := 2, G := v } : Pg).cells = (p i).cells.set 1 v := fun v => by simp [Pg.cells, hs]
 have key : ∀ gb w' v, GrowAt w g6 (i * 5) gb (p i).n (p i).id 0 64 v w' -> g6 ≠ gb -> ((p i).L.ownBlock = some gb \/ w.heap.size <= gb) -> LShows w' (p i).L (p i).n (mkS (p i).id) -> Went w w' bk m (.slice (some ⟨g6, 0, none⟩) m c6) p (upd p i { p i with s := 2, G := v }) := by
  intro gb w' v hG hne hgb hls
  have hhas : ∀ q, ({ p i with s := 2, G := v } : Pg).has q -> (p i).has q \/ w.heap.size <= q := by
   intro q hq
   rcases hq with hq | hq | hq
   ·exact .inl (.inl hq)
   ·have hq : v.ownBlock = some q := hq
    rcases hG.at' with h' | h'
    ·rw [h'] at hq
     injection hq with hq
     subst hq
     exact hgb.imp .inl id
    ·exact .inr (h' q hq)
   ·exact .inl (.inr (.inr hq))
  refine went_of h hi ?_ ?_ hG.size hG.os hG.tape hG.output (fun q hq h7 h8 => hG.far q hq (fun e => h7 (by rw [e]; rfl)) (fun e => ?_)) hhas (fun q hq => ?_)
  ·rw [<- pages_set p i _ 1 v (by omega) (hset v) m hi]
   refine ⟨by rw [List.length_set]; exact h.row.1, .inr ?_⟩
   rcases h.row.2 with ⟨h', _⟩ | ⟨g, c, cur, h', hb, hg, hc1, hc2, hsz, htk⟩
   ·cases h'
   ·injection h' with h' _ h2'
    injection h' with h'
    injection h' with h' _ _
    subst h' h2'
    obtain ⟨cur', h3, h4⟩ := hG.pobj 122 _ ⟨cur, hg, hsz⟩
    refine ⟨g6, c6, cur', rfl, hb, h3, hc1, hc2, h4, ?_⟩
    apply List.ext_getElem?
    intro j
    by_cases hj : j < m * 5
    ·rw [List.getElem?_take_of_lt hj]
     have e1 : cur'.toList[j]? = w'.cell? ⟨g6, j, none⟩ := by simp [World.cell?, h3]
     rw [e1]
     by_cases hj1 : j = i * 5 + 1
     ·subst hj1
      rw [hG.g, List.getElem?_set_self (by rw [pages_len]; omega)]
     ·rw [hG.page j hj1, List.getElem?_set_ne (fun e => hj1 e.symm), h.row.cellAt j hj]
    ·rw [List.getElem?_eq_none (by simp; omega), List.getElem?_eq_none (by rw [List.length_set, pages_len]; omega)]
  ·refine ⟨(h.ok i hi).le, (h.ok i hi).idl, fun e => by simp at e, fun e => by simp at e, fun _ => ⟨hls, hG.own⟩, by simp⟩
  ·subst e
   rcases hgb with h9 | h9
   ·exact h8 (.inl h9)
   ·omega
  ·rcases hq with hq | hq | hq
   ·have := (h.far i hi q (.inl hq)).2.2; have := hG.size; omega
   ·exact (hG.own.lt q hq).2
   ·have := (h.far i hi q (.inr (.inr hq))).2.2; have := hG.size; omega
 rcases LShows.of_own h1 with ⟨hn0, hL⟩ | ⟨gb, cap, hL, hgl, hc⟩
 ·rw [hL] at a0
  refine (grow_none g6 (i * 5) (p i).id 0 (h.ok i hi).idl w (Nat.zero_le _) a0 ⟨_, a1⟩ f1 a3 h.tab (fun e => h.r3 (by rw [e]; rfl))).mono ?_
  rintro e w' ⟨rfl, v, hG⟩
  have hG' : GrowAt w g6 (i * 5) w.heap.size (p i).n (p i).id 0 64 v w' := by rw [hn0]; exact hG
  exact ⟨rfl, _, rfl, key w.heap.size w' v hG' (by omega) (.inr (Nat.le_refl _)) (.inl ⟨hn0, hL⟩)⟩
 ·have hne : g6 ≠ gb := fun e => (h.far i hi gb (.inl (by rw [hL]; rfl))).2.1 (by rw [e]; rfl)
  rw [hL] at a0 h1
  refine (grow_some g6 (i * 5) gb (p i).n cap (p i).id 0 (h.ok i hi).idl (h.ok i hi).le w (Nat.zero_le _) hne hgl a0 ⟨_, a1⟩ f1 a3 h.tab ⟨fun e => h.r3 (by rw [e]; rfl), fun e => h.p3 i hi (.inl (by rw [hL, e]; rfl))⟩ h1).mono ?_
  rintro e w' ⟨rfl, v, hG⟩
  exact ⟨rfl, _, rfl, key gb w' v hG hne (.inl (by rw [hL]; rfl)) (.inr ⟨gb, cap, hL, by have := hG.size; omega, hG.lst⟩)⟩
theorem book_row {w : World} {bk m : Nat} {R : Value} {p : Nat -> Pg} (h : KindAt w bk m R p) : ∃ pa pc, R = .slice pa m pc /\ (0 < m -> ∃ g6, pa = some ⟨g6, 0, none⟩) := by
 rcases h.row.2 with ⟨h1, h2⟩ | ⟨g, c, cur, h1, _⟩
 ·exact ⟨none, 0, by rw [h1, h2], fun h => by omega⟩
 ·exact ⟨_, c, h1, fun _ => ⟨g, rfl⟩⟩
theorem fill_book {w : World} {bk m : Nat} {R : Value} {p : Nat -> Pg} (h : KindAt w bk m R p) (hm : m <= 96) : Calls Tryz.prog 54 #[.pointer (some ⟨bk, 6, none⟩)] w fun e w' => e = .returned (.tuple #[]) /\ ∃ p', Went w w' bk m R p p' /\ ∀ i, i < m -> (p' i).s ≠ 0 := by
 have HB := hide h
 obtain ⟨pa, pc, rfl, hpa⟩ := book_row h
 have HPA := hide hpa
 have hc1 := h.c1
 clear h hpa
 go_enter Tryz.func54, Tryz.ntmps54
 go_wp2_with fail
 go_loopw [2] (fun i wr => ∃ (j : Nat) (pr : Nat -> Pg), j <= m /\ i = .int .i64 (j : Int) /\ Went w wr bk m (.slice pa m pc) p pr /\ ∀ i, i < j -> (pr i).s ≠ 0) (fun i _ => m - (intOf i).toNat)
 case atStart => exact ⟨0, p, by omega, rfl, Went.refl (uh HB), fun i hi => by omega⟩
 case round =>
  obtain ⟨j, pr, hj, rfl, hw, hd⟩ := hrel
  have hbr := hw.1
  have l1 := hbr.c1
  have HW := hide hw
  have HD := hide hd
  clear hc1 hw hd
  by_cases hlt : j < m
  ·obtain ⟨g6, rfl⟩ := uh HPA (by omega)
   have a4 := hbr.cell j hlt 4 (by omega)
   simp only [Pg.cells, List.getElem?_cons_zero, List.getElem?_cons_succ] at a4
   have hI : (j : Int) < (m : Int) := by omega
   have hI0 : (0 : Int) <= (j : Int) := by omega
   by_cases hs : (pr j).s = 0
   ·have hfp := hide (fill_page hbr j hlt hs)
    have hd0 : decide (0 < (pr j).s) = false := by rw [hs]; rfl
    rw [hd0] at a4
    clear hbr hd0
    go_wp2_with fail
    refine (uh hfp).mono ?_
    rintro e w2 ⟨rfl, P, hP, hw2⟩
    have HW2 := hide hw2
    clear hw2
    go_wp2_with fail
    refine ⟨⟨j + 1, upd pr j P, by omega, by go_num, (uh HW).trans (uh HW2), fun i hi => ?_⟩, by simp [intOf]; omega⟩
    by_cases e : i = j
    ·subst e; rw [upd_same, hP]; omega
    ·rw [upd_other _ _ _ _ e]; exact uh HD i (by omega)
   ·have hd0 : decide (0 < (pr j).s) = true := by simp; omega
    rw [hd0] at a4
    clear hbr hd0
    go_wp2_with fail
    refine ⟨⟨j + 1, pr, by omega, by go_num, uh HW, fun i hi => ?_⟩, by simp [intOf]; omega⟩
    by_cases e : i = j
    ·subst e; exact hs
    ·exact uh HD i (by omega)
  ·have hjm : j = m := by omega
   subst hjm
   have hI : ¬ (j : Int) < (j : Int) := by omega
   clear hbr
   go_wp2_with fail
   go_end0
   exact ⟨rfl, pr, uh HW, uh HD⟩
theorem grow_book {w : World} {bk m : Nat} {R : Value} {p : Nat -> Pg} (h : KindAt w bk m R p) (hm : m <= 96) (h0 : ∀ i, i < m -> (p i).s ≠ 0) : Calls Tryz.prog 74 #[.pointer (some ⟨bk, 6, none⟩)] w fun e w' => e = .returned (.tuple #[]) /\ ∃ p', Went w w' bk m R p p' /\ ∀ i, i < m -> (p' i).s = 2 := by
 have HB := hide h
 have H0 := hide h0
 obtain ⟨pa, pc, rfl, hpa⟩ := book_row h
 have HPA := hide hpa
 have hc1 := h.c1
 clear h hpa h0
 go_enter Tryz.func74, Tryz.ntmps74
 go_wp2_with fail
 go_loopw [2] (fun i wr => ∃ (j : Nat) (pr : Nat -> Pg), j <= m /\ i = .int .i64 (j : Int) /\ Went w wr bk m (.slice pa m pc) p pr /\ (∀ i, i < j -> (pr i).s = 2) /\ ∀ i, i < m -> (pr i).s ≠ 0) (fun i _ => m - (intOf i).toNat)
 case atStart => exact ⟨0, p, by omega, rfl, Went.refl (uh HB), fun i hi => by omega, uh H0⟩
 case round =>
  obtain ⟨j, pr, hj, rfl, hw, hd, hn0⟩ := hrel
  have hbr := hw.1
  have l1 := hbr.c1
  have HW := hide hw
  have HD := hide hd
  have HN := hide hn0
  clear hc1 hw hd hn0
  by_cases hlt : j < m
  ·obtain ⟨g6, rfl⟩ := uh HPA (by omega)
   have a1 := hbr.cell j hlt 1 (by omega)
   simp only [Pg.cells, List.getElem?_cons_zero, List.getElem?_cons_succ] at a1
   have hI : (j : Int) < (m : Int) := by omega
   have hI0 : (0 : Int) <= (j : Int) := by omega
   by_cases hs : (pr j).s = 1
   ·have hfp := hide (grow_page hbr j hlt hs)
    rw [((hbr.ok j hlt).s1 hs).2] at a1
    clear hbr
    go_wp2_with fail
    refine (uh hfp).mono ?_
    rintro e w2 ⟨rfl, P, hP, hw2⟩
    have HW2 := hide hw2
    clear hw2
    go_wp2_with fail
    refine ⟨⟨j + 1, upd pr j P, by omega, by go_num, (uh HW).trans (uh HW2), fun i hi => ?_, fun i hi => ?_⟩, by simp [intOf]; omega⟩
    ·by_cases e : i = j
     ·subst e; rw [upd_same, hP]
     ·rw [upd_other _ _ _ _ e]; exact uh HD i (by omega)
    ·by_cases e : i = j
     ·subst e; rw [upd_same, hP]; omega
     ·rw [upd_other _ _ _ _ e]; exact uh HN i hi
   ·have hs2 : (pr j).s = 2 := by have := uh HN j hlt; have := (hbr.ok j hlt).s3; omega
    obtain ⟨g7, c7, hv7⟩ := own_open ((hbr.ok j hlt).s2 hs2).2 (by omega)
    rw [hv7] at a1
    obtain ⟨N, hN⟩ : ∃ N, N = (pr j).n + 64 := ⟨_, rfl⟩
    have hN0 : ¬ (N : Int) = 0 := by omega
    have hN1 : ¬ N = 0 := by omega
    rw [<- hN] at a1
    clear hbr hN
    go_wp2_with fail
    refine ⟨⟨j + 1, pr, by omega, by go_num, uh HW, fun i hi => ?_, uh HN⟩, by simp [intOf]; omega⟩
    by_cases e : i = j
    ·subst e; exact hs2
    ·exact uh HD i (by omega)
  ·have hjm : j = m := by omega
   subst hjm
   have hI : ¬ (j : Int) < (j : Int) := by omega
   clear hbr
   go_wp2_with fail
   go_end0
   exact ⟨rfl, pr, uh HW, uh HD⟩
theorem keep_bytes (bk k n cap gb B : Nat) (f : Nat -> ByteArray) (hk : k < 900) (hn : n <= 4096) (hn0 : 0 < n) (w : World) (m pc : Nat) (pa : Option Addr) (xs : List Value) (hB : B <= w.heap.size) (hm : m < 96) (hk0 : w.cell? ⟨bk, 6, none⟩ = some (.int .i64 (k : Int))) (hk1 : w.cell? ⟨bk, 10, none⟩ = some (.slice pa m pc)) (hf0 : w.frozen? ⟨bk, 6, none⟩ = false) (hf1 : w.frozen? ⟨bk, 10, none⟩ = false)
  (hgb : gb < w.heap.size) (hc : ∀ j, j < n -> w.cell? ⟨gb, j, none⟩ = some (.string (f j))) (hp : w.ownsRow B 122 5 (.slice pa m pc) m xs) (hpb : ∀ q, (Value.slice pa m pc).ownBlock = some q -> q ≠ bk) :
  Calls Tryz.prog 118 #[.pointer (some ⟨bk, 6, none⟩), .slice (some ⟨gb, 0, none⟩) n cap] w fun e w' => e = .returned (.tuple #[]) /\ KeepOut w bk k m B (.slice (some ⟨gb, 0, none⟩) n cap) n f (.slice pa m pc) xs w' := by
 have hI1 : (m : Int) < 96 := by omega
 have hbk : bk < w.heap.size := World.block_lt_of_cell? w ⟨bk, 10, none⟩ hk1
 obtain ⟨i0, hi, hz0, hz1, hz2⟩ := info_parts info9
 have HI := hide hi; have HZ0 := hide hz0; have HZ1 := hide hz1; have HZ2 := hide hz2
 have hnl := hide (World.ownsRow_lit (base := w.heap.size) (e := 9) (size := 1) w #[] 0 (Nat.le_refl _) (by unfold maxLen; omega) rfl)
 have hc1 := hide (fun o j (hj : j < n) => (World.cell?_alloc_lt w o ⟨gb, j, none⟩ hgb).trans (hc j hj))
 have HP := hide hp
 have HC := hide hc
 have k1a := fun o => (World.cell?_alloc_lt w o ⟨bk, 10, none⟩ hbk).trans hk1
 have k0a := hide (fun o => (World.cell?_alloc_lt w o ⟨bk, 6, none⟩ hbk).trans hk0)
 have f0a := hide (fun o => show (w.alloc o).frozen? ⟨bk, 6, none⟩ = false from ((bal (Below.refl w.heap.size w) o).frozen (p := ⟨bk, 6, none⟩) hbk).trans hf0)
 have f1a := hide (fun o => show (w.alloc o).frozen? ⟨bk, 10, none⟩ = false from ((bal (Below.refl w.heap.size w) o).frozen (p := ⟨bk, 10, none⟩) hbk).trans hf1)
 have hpa := hide (fun o => show bk < (w.alloc o).heap.size from by rw [World.size_alloc]; omega)
 have hvn : Hid (∀ q, (Value.slice (some ⟨w.heap.size, 0, none⟩) 0 0).ownBlock = some q -> q ≠ bk) := by
  intro q hq
  simp [Value.ownBlock] at hq
  omega
 have hvh : Hid (∀ q, (Value.slice (some ⟨w.heap.size, 0, none⟩) 0 0).ownBlock = some q -> w.heap.size <= q) := by
  intro q hq
  simp [Value.ownBlock] at hq
  omega
 have HPB := hide hpb
 clear hpb
 have hid := hide (id_any bk k (by omega))
 clear hi hz0 hz1 hz2 hp hc hk0 hf0
 go_enter Tryz.func118, Tryz.ntmps118
 go_wp2_with fail
 go_region_law (first
  | (go_simp; go_at_call 215; refine (uh hid _ (uh t0) (uh u0)).mono ?_; rintro e w2 ⟨rfl, hw⟩; rw [hw]; clear hw)
  | (refine step_append_page _ rfl _ _ rfl B (.slice pa m pc) m xs rfl (row_far (uh HP) (fun q hq => by have hq1 := ((uh HP).lt q hq).2; rw [Below.heap_alloc _ _ _ (by simpa using Nat.lt_of_lt_of_le hq1 (uh G5).1.size), Below.heap_setCell _ _ _ _ (uh HPB q hq)]; exact (uh G5).1.block q hq1)) ⟨w5.heap.size, 0, none⟩ 1 [.slice (some ⟨gb, 0, none⟩) n cap, .slice none 0 0, .slice (some ⟨g, 0, none⟩) n c5, .int .i64 ((k : Int) + 1), .bool false] rfl rfl (five_new (by simp) _ _ _ _ _ _) (by intro u hu; simp at hu; rcases hu with rfl | rfl | rfl | rfl | rfl <;> rfl) (by omega) (by simp; have := (uh G5).1.size; omega) ?_; intro g6 c6 w6 hown6 hgr6 hat6; have O6 := hide hown6; have G6 := hide hgr6; have A6 := hide hat6; have t6 := page_far hgr6 (uh HPB) hb5 (by omega) t1; have f6 := page_farF hgr6 (uh HPB) hb5 (uh u1); clear hown6 hgr6 hat6)
  | (refine step_append_keep _ rfl _ _ rfl w.heap.size i0 (uh HI) (uh HZ0) (uh HZ1) (uh HZ2) (.slice (some ⟨w.heap.size, 0, none⟩) 0 0) 0 [] rfl (uh hnl) ⟨gb, 0, none⟩ n cap (scells f n) rfl (scells_len _ _) (fun j u hj => by obtain ⟨h1, h2⟩ := scells_get' hj; rw [h2, Addr.add_mid, Nat.zero_add]; exact uh hc1 _ j h1) (scells_one _ _) (by omega) (by omega) (by simp) ?_; intro g c5 w5 hown5 hgr5; have t0 := hide (grow_farW hgr5 (uh hvn) (uh hpa _) (uh k0a _)); have t1 := grow_farW hgr5 (uh hvn) (uh hpa _) (k1a _); have u0 := hide (grow_farFW hgr5 (uh hvn) (uh hpa _) (uh f0a _)); have u1 := hide (grow_farFW hgr5 (uh hvn) (uh hpa _) (uh f1a _)); have O5 := hide hown5; have G5 := hide (keep_one (w := w) hgr5); have hb5 : bk < w5.heap.size := Nat.lt_of_lt_of_le hbk (uh G5).1.size; have t1b := fun x o => load_far (x := x) (o := o) hb5 t1; clear hown5 hgr5))
 all_goals
  go_wp2_with fail
  go_end0
  have ho5 := uh O5
  simp only [Nat.zero_add, List.nil_append] at ho5
  exact ⟨rfl, keep_out hbk (fun q hq => ⟨uh HPB q hq, ((uh HP).lt q hq).2⟩) (uh G5) ho5 (uh t0) (fun i => World.frozen?_of_block ((uh G5).1.block bk hbk)) t6 (uh G6) (uh O6) (uh A6)⟩
theorem run_append_zero (w : World) (base : Nat) (ty : TypeId) (i : TypeInfo) (hi : Tryz.prog.info? 9 = some i) (v : Value) (n : Nat) (xs : List Value) (hown : w.ownsRow base 9 1 v n xs) (px : Option Addr) (cx : Nat) (hx : px = none -> cx = 0) :
  (Builtin.append_ #[77, 77] ty #[v, .slice px 0 cx]).run Tryz.prog w = .ok v w := by
 have ht := Tryz.underlying77
 cases px with
 | none =>
  rw [hx rfl]
  exact run_append_owned_none (P := Tryz.prog) (w := w) base 77 ty 9 i 1 ht hi v n xs hown
 | some a =>
  rcases hown.2 with ⟨rfl, rfl⟩ | ⟨g, cap, cur, rfl, _, _, hnc, _⟩
  ·simp [Builtin.append_, run_underlying ht, sizeOf, typeInfo, hi, Builtin.lenOf, Builtin.firstCells, loadCells, loadCellsFrom]
  ·simp [Builtin.append_, run_underlying ht, sizeOf, typeInfo, hi, Builtin.lenOf, Builtin.firstCells, loadCells, loadCellsFrom, hnc, storeCells]
theorem step_append_nothing {ops : Array Oper} {o : Oper} {a : Act} {K : Act -> World -> Prop} {Q : Exit -> Act -> World -> Prop} {E : Prop} (w : World) (hgd : o.guard = none) (s x : Operand)
  (ho : o.op = .call { callee := .builtin .append, args := #[s, x], argTypes := #[77, 77] })
  (base : Nat) (v : Value) (n : Nat) (xs : List Value) (hs : a.eval s = v) (hown : w.ownsRow base 9 1 v n xs) (px : Option Addr) (cx : Nat) (hpx : px = none -> cx = 0) (hx : a.eval x = .slice px 0 cx)
  (h : ∀ w5, w5 = w -> K (a.put o.dst v) w5) :
  if Region.wanted o (yielded ops a.tmps) = true then Oper.wp Tryz.prog o a w K Q else E := by
 have hw : Region.wanted o (yielded ops a.tmps) = true := by simp [Region.wanted, hgd]
 rw [if_pos hw]
 obtain ⟨i0, hi, hz0, hz1, hz2⟩ := info_parts info9
 have hr := run_append_zero w base o.type i0 hi v n xs hown px cx hpx
 unfold Oper.wp execOp
 simp only [ho, resolve, invoke, builtin, Sem.run_bind, Sem.run_pure, Result.andThen_ok, List.map_toArray, List.map_cons, List.map_nil, hs, hx, hr]
 exact h w rfl
theorem keep_none (px : Option Addr) (cx : Nat) (hpx : px = none -> cx = 0) (bk k B : Nat) (f : Nat -> ByteArray) (hk : k < 900) (w : World) (m pc : Nat) (pa : Option Addr) (xs : List Value) (hB : B <= w.heap.size) (hm : m < 96) (hk0 : w.cell? ⟨bk, 6, none⟩ = some (.int .i64 (k : Int))) (hk1 : w.cell? ⟨bk, 10, none⟩ = some (.slice pa m pc)) (hf0 : w.frozen? ⟨bk, 6, none⟩ = false) (hf1 : w.frozen? ⟨bk, 10, none⟩ = false)
  (hp : w.ownsRow B 122 5 (.slice pa m pc) m xs) (hpb : ∀ q, (Value.slice pa m pc).ownBlock = some q -> q ≠ bk) :
  Calls Tryz.prog 118 #[.pointer (some ⟨bk, 6, none⟩), .slice px 0 cx] w fun e w' => e = .returned (.tuple #[]) /\ KeepOut w bk k m B (.slice px 0 cx) 0 f (.slice pa m pc) xs w' := by
 have hI1 : (m : Int) < 96 := by omega
 have hbk : bk < w.heap.size := World.block_lt_of_cell? w ⟨bk, 10, none⟩ hk1
 have hnl : Hid ((w.alloc (.cells #[] 9)).drew.ownsRow w.heap.size 9 1 (.slice (some ⟨w.heap.size, 0, none⟩) 0 0) 0 []) := World.ownsRow_lit (base := w.heap.size) (e := 9) (size := 1) w #[] 0 (Nat.le_refl _) (by unfold maxLen; omega) rfl
 have HP := hide hp
 have k1a : (w.alloc (.cells #[] 9)).cell? ⟨bk, 10, none⟩ = some (.slice pa m pc) := (World.cell?_alloc_lt w (.cells #[] 9) ⟨bk, 10, none⟩ hbk).trans hk1
 have G0 : Hid (Below w.heap.size w (w.alloc (.cells #[] 9)).drew) := (bal (Below.refl _ _) _).drew
 have HK0 := hide hk0
 have HF0 := hide hf0
 have HPB := hide hpb
 have hid := hide (id_any bk k (by omega))
 clear hp hk0 hf0 hpb
 go_enter Tryz.func118, Tryz.ntmps118
 go_wp2_with fail
 go_region_law (first
  | (refine step_append_nothing _ rfl _ _ rfl w.heap.size (.slice (some ⟨w.heap.size, 0, none⟩) 0 0) 0 [] rfl (uh hnl) px cx hpx rfl ?_; intro w5 hw5; have G5 : Hid (Below w.heap.size w w5) := (by rw [hw5]; exact uh G0); have O5 : Hid (w5.ownsRow w.heap.size 9 1 (.slice (some ⟨w.heap.size, 0, none⟩) 0 0) 0 []) := (by rw [hw5]; exact uh hnl); have t0 := hide (keep1 (uh G5) hbk (uh HK0)); have t1 := keep1 (uh G5) hbk hk1; have u0 := hide (((uh G5).frozen (p := ⟨bk, 6, none⟩) hbk).trans (uh HF0)); have u1 := hide (((uh G5).frozen (p := ⟨bk, 10, none⟩) hbk).trans hf1); have hb5 : bk < w5.heap.size := Nat.lt_of_lt_of_le hbk (uh G5).size; have t1b := fun x o => load_far (x := x) (o := o) hb5 t1; clear hw5)
  | (go_simp; go_at_call 215; refine (uh hid _ (uh t0) (uh u0)).mono ?_; rintro e w2 ⟨rfl, hw⟩; rw [hw]; clear hw)
  | (refine step_append_page _ rfl _ _ rfl B (.slice pa m pc) m xs rfl (row_far (uh HP) (fun q hq => by have hq1 := ((uh HP).lt q hq).2; rw [Below.heap_alloc _ _ _ (by simpa using Nat.lt_of_lt_of_le hq1 (uh G5).size), Below.heap_setCell _ _ _ _ (uh HPB q hq)]; exact (uh G5).block q hq1)) ⟨w5.heap.size, 0, none⟩ 1 [.slice px 0 cx, .slice none 0 0, .slice (some ⟨w.heap.size, 0, none⟩) 0 0, .int .i64 ((k : Int) + 1), .bool false] rfl rfl (five_new (by simp) _ _ _ _ _ _) (by intro u hu; simp at hu; rcases hu with rfl | rfl | rfl | rfl | rfl <;> rfl) (by omega) (by simp; have := (uh G5).size; omega) ?_; intro g6 c6 w6 hown6 hgr6 hat6; have O6 := hide hown6; have G6 := hide hgr6; have A6 := hide hat6; have t6 := page_far hgr6 (uh HPB) hb5 (by omega) t1; have f6 := page_farF hgr6 (uh HPB) hb5 (uh u1); clear hown6 hgr6 hat6))
 all_goals
  go_wp2_with fail
  go_end0
  exact ⟨rfl, keep_out hbk (fun q hq => ⟨uh HPB q hq, ((uh HP).lt q hq).2⟩) ⟨uh G5, Nat.le_refl _⟩ (uh O5) (uh t0) (fun i => World.frozen?_of_block ((uh G5).block bk hbk)) t6 (uh G6) (uh O6) (uh A6)⟩
def WriteOut (w : World) (bk k m B C gb n : Nat) (L old : Value) (xs : List Value) (w' : World) : Prop :=
 ∃ g6 c6 v, w'.cell? ⟨bk, 6, none⟩ = some (.int .i64 ((k : Int) + 1)) /\ w'.cell? ⟨bk, 10, none⟩ = some (.slice (some ⟨g6, 0, none⟩) (m + 1) c6) /\
  w'.ownsRow B 122 5 (.slice (some ⟨g6, 0, none⟩) (m + 1) c6) (m + 1) (xs ++ [L, v, .slice none 0 0, .int .i64 ((k : Int) + 1), .bool true]) /\
  w'.ownsRow C 9 1 v (n + 64) (scells (cat (mkS (k + 1)) n (mkS (k + 1 + 100000))) (n + 64)) /\ (∀ j, j < n -> w'.cell? ⟨gb, j, none⟩ = some (.string (mkS (k + 1) j))) /\
  g6 ≠ bk /\ g6 ≠ gb /\ v.ownBlock ≠ some g6 /\ v.ownBlock ≠ some bk /\ (v.ownBlock = some gb \/ ∀ q, v.ownBlock = some q -> w.heap.size <= q) /\ (some g6 = old.ownBlock \/ w.heap.size <= g6) /\
  (∀ i, i ≠ 6 -> i ≠ 10 -> w'.cell? ⟨bk, i, none⟩ = w.cell? ⟨bk, i, none⟩) /\ (∀ i, w'.frozen? ⟨bk, i, none⟩ = w.frozen? ⟨bk, i, none⟩) /\
  w.heap.size <= w'.heap.size /\ w'.os = w.os /\ w'.tape = w.tape /\ w'.output = w.output /\ ∀ q, q < w.heap.size -> q ≠ bk -> q ≠ gb -> old.ownBlock ≠ some q -> w'.heap[q]? = w.heap[q]?
theorem write_out {w w3 w6 : World} {bk k m B C gb n g6 c6 : Nat} {L old u v : Value} {xs : List Value} {o : Obj} (hbk : bk < w.heap.size) (hgb : gb < w3.heap.size) (hgk : gb ≠ bk) (hold : ∀ q, old.ownBlock = some q -> (q ≠ bk /\ q ≠ gb) /\ q < w.heap.size)
  (c0 : w3.cell? ⟨bk, 6, none⟩ = some (.int .i64 ((k : Int) + 1))) (ci : ∀ i, i ≠ 6 -> i ≠ 10 -> w3.cell? ⟨bk, i, none⟩ = w.cell? ⟨bk, i, none⟩) (cf : ∀ i, w3.frozen? ⟨bk, i, none⟩ = w.frozen? ⟨bk, i, none⟩)
  (r3 : ∀ q, q < w.heap.size -> q ≠ bk -> q ≠ gb -> w3.heap[q]? = w.heap[q]?) (hz3 : w.heap.size + 1 <= w3.heap.size) (own3 : w3.ownsRow C 9 1 v (n + 64) (scells (cat (mkS (k + 1)) n (mkS (k + 1 + 100000))) (n + 64)))
  (lst3 : ∀ j, j < n -> w3.cell? ⟨gb, j, none⟩ = some (.string (mkS (k + 1) j))) (hv : v.ownBlock = some gb \/ ∀ q, v.ownBlock = some q -> w.heap.size <= q) (os3 : w3.os = w.os) (tp3 : w3.tape = w.tape) (ou3 : w3.output = w.output)
  (t6 : w6.cell? ⟨bk, 10, none⟩ = some u) (G6 : (w3.alloc o).drew.grownBy w6 old.ownBlock)
  (O6 : w6.ownsRow B 122 5 (.slice (some ⟨g6, 0, none⟩) (m + 1) c6) (m + 1) (xs ++ [L, v, .slice none 0 0, .int .i64 ((k : Int) + 1), .bool true]))
  (A6 : some g6 = old.ownBlock \/ g6 = (w3.alloc o).drew.heap.size) :
  WriteOut w bk k m B C gb n L old xs (w6.setCell ⟨bk, 10, none⟩ (.slice (some ⟨g6, 0, none⟩) (m + 1) c6)) := by
 have hsz : (w3.alloc o).drew.heap.size = w3.heap.size + 1 := by simp
 rw [hsz] at A6
 have hs6 := G6.size
 rw [hsz] at hs6
 have hne6 : g6 ≠ bk /\ g6 ≠ gb := by
  rcases A6 with h | h
  ·exact (hold g6 h.symm).1
  ·omega
 have hvo : ∀ q, v.ownBlock = some q -> q ≠ bk /\ q ≠ g6 /\ q < w3.heap.size /\ some q ≠ old.ownBlock := by
  intro q hq
  have h1 := (own3.lt q hq).2
  rcases hv with h | h
  ·rw [h] at hq
   injection hq with hq
   subst hq
   refine ⟨hgk, hne6.2.symm, h1, fun e => (hold _ e.symm).1.2 rfl⟩
  ·have h2 := h q hq
   refine ⟨by omega, ?_, h1, fun e => by have := (hold _ e.symm).2; omega⟩
   rcases A6 with h' | h'
   ·have := (hold g6 h'.symm).2
    omega
   ·omega
 have hblk : ∀ q, q < w3.heap.size -> q ≠ bk -> some q ≠ old.ownBlock -> (w6.setCell ⟨bk, 10, none⟩ (.slice (some ⟨g6, 0, none⟩) (m + 1) c6)).heap[q]? = w3.heap[q]? := by
  intro q hq h1 h2
  rw [Below.heap_setCell _ _ _ _ h1, G6.block q (by rw [hsz]; omega) h2]
  exact Below.heap_alloc w3 _ _ hq
 have hcell : ∀ i, i ≠ 10 -> (w6.setCell ⟨bk, 10, none⟩ (.slice (some ⟨g6, 0, none⟩) (m + 1) c6)).cell? ⟨bk, i, none⟩ = w3.cell? ⟨bk, i, none⟩ := by
  intro i h1
  rw [World.cell?_setCell_other _ _ _ _ (by intro h'; injection h' with _ h' _; omega), G6.cell_far ⟨bk, i, none⟩ (by rw [hsz]; show bk < _; omega) (fun e => (hold bk e.symm).1.1 rfl)]
  exact World.cell?_alloc_lt w3 _ _ (by show bk < _; omega)
 refine ⟨g6, c6, v, (hcell 6 (by omega)).trans c0, World.cell?_setCell_same _ _ _ t6, row_far O6 ?_, row_far own3 ?_, fun j hj => ?_, hne6.1, hne6.2, fun e => (hvo g6 e).2.1 rfl, fun e => (hvo bk e).1 rfl, hv, A6.imp id (fun h => by omega), fun i hi hi4 => (hcell i hi4).trans (ci i hi hi4), fun i => ?_, by simp; omega, ?_, ?_, ?_, fun q hq h1 h2 h3 => ?_⟩
 ·intro q hq
  injection hq with hq
  have hq : g6 = q := hq
  subst hq
  exact Below.heap_setCell _ _ _ _ hne6.1
 ·intro q hq
  obtain ⟨h1, _, h3, h4⟩ := hvo q hq
  exact hblk q h3 h1 h4
 ·rw [World.cell?_of_block (hblk gb (by omega) hgk (fun e => (hold gb e.symm).1.2 rfl))]
  exact lst3 j hj
 ·rw [<- cf i]
  have h := (G6.frozen_far ⟨bk, i, none⟩ (by rw [hsz]; show bk < _; omega) (fun e => (hold bk e.symm).1.1 rfl)).trans (World.frozen?_alloc_past (w := w3) o bk i (by omega))
  simpa using h
 ·exact G6.os.trans os3
 ·exact G6.tape.trans tp3
 ·exact G6.output.trans ou3
 ·rw [hblk q (by omega) h1 (fun e => h3 e.symm)]
  exact r3 q hq h1 h2
theorem write_some (bk k n cap gb B C : Nat) (f : Nat -> ByteArray) (hk : k < 900) (hn : n <= 4096) (w : World) (m pc : Nat) (pa : Option Addr) (xs : List Value) (hB : B <= w.heap.size) (hC : C <= w.heap.size) (hm : m < 96) (hk0 : w.cell? ⟨bk, 6, none⟩ = some (.int .i64 (k : Int))) (hk1 : w.cell? ⟨bk, 10, none⟩ = some (.slice pa m pc)) (hf0 : w.frozen? ⟨bk, 6, none⟩ = false) (hf1 : w.frozen? ⟨bk, 10, none⟩ = false)
  (hP : Pw w) (h3 : bk ≠ 0 /\ gb ≠ 0) (hgb : gb < w.heap.size) (hgk : gb ≠ bk) (hL : w.ownsRow C 9 1 (.slice (some ⟨gb, 0, none⟩) n cap) n (scells f n)) (hLf : ∀ j, j < n -> w.frozen? ⟨gb, j, none⟩ = false) (hp : w.ownsRow B 122 5 (.slice pa m pc) m xs) (hpb : ∀ q, (Value.slice pa m pc).ownBlock = some q -> q ≠ bk /\ q ≠ gb) :
  Calls Tryz.prog 119 #[.pointer (some ⟨bk, 6, none⟩), .slice (some ⟨gb, 0, none⟩) n cap] w fun e w' => e = .returned (.tuple #[]) /\ WriteOut w bk k m B C gb n (.slice (some ⟨gb, 0, none⟩) n cap) (.slice pa m pc) xs w' := by
 have hI1 : (m : Int) < 96 := by omega
 have hbk : bk < w.heap.size := World.block_lt_of_cell? w ⟨bk, 10, none⟩ hk1
 have hid := hide (id_any bk k (by omega) w hk0 hf0)
 have HW : Hid (∃ W1, W1 = (w.setCell ⟨bk, 6, none⟩ (.int .i64 ((k : Int) + 1))).alloc (.cells #[.slice (some ⟨gb, 0, none⟩) n cap, .slice none 0 0, .slice none 0 0, .int .i64 ((k : Int) + 1), .bool false] 122)) := ⟨_, rfl⟩
 obtain ⟨W1, hW1⟩ := uh HW
 have hs1 : (w.setCell ⟨bk, 6, none⟩ (.int .i64 ((k : Int) + 1))).heap.size = w.heap.size := by simp
 have hz1 : W1.heap.size = w.heap.size + 1 := by rw [hW1]; simp
 have hpc : ∀ j, W1.cell? ⟨w.heap.size, j, none⟩ = (#[.slice (some ⟨gb, 0, none⟩) n cap, .slice none 0 0, .slice none 0 0, .int .i64 ((k : Int) + 1), .bool false] : Array Value)[j]? := by
  intro j
  rw [hW1, <- hs1, World.cell?_alloc_mark]
 have hpf : ∀ j, W1.frozen? ⟨w.heap.size, j, none⟩ = false := by
  intro j
  rw [hW1]
  exact World.frozen?_alloc_at _ _ _ _ hs1.symm
 have hblk : ∀ q, q < w.heap.size -> q ≠ bk -> W1.heap[q]? = w.heap[q]? := by
  intro q hq h1
  rw [hW1, Below.heap_alloc _ _ _ (by simpa using hq), Below.heap_setCell _ _ _ _ h1]
 have hL1 : W1.ownsRow C 9 1 (.slice (some ⟨gb, 0, none⟩) n cap) n (scells f n) := row_far hL (fun q hq => by injection hq with hq; have hq : gb = q := hq; subst hq; exact hblk gb hgb hgk)
 have PW1 := hide (hP.keep (hblk 0 hP.lt (fun e => h3.1 e.symm)))
 have h3w : w.heap.size ≠ 0 := by have := hP.lt; omega
 have HLT := hide hP.lt
 have hfill := hide (fill_some w.heap.size 0 gb n cap (k + 1) f hn (by omega) W1 (by omega) (hpc 0) ((hpc 3).trans (by simp)) ⟨_, hpc 4⟩ (hpf 4) (fun j hj => by rw [hL1.cellAt j (by omega)]; exact scells_get _ _ _ hj) (fun j hj => by rw [World.frozen?_of_block (hblk gb hgb hgk)]; exact hLf j hj) (by omega) (uh PW1) h3.2)
 have HP := hide hp
 have HPB := hide hpb
 have HK1 := hide hk1
 have HF1 := hide hf1
 have HPC := hide hpc
 have HPF := hide hpf
 have HBL := hide hblk
 have HL1 := hide hL1
 have hk1' : W1.cell? ⟨bk, 10, none⟩ = some (.slice pa m pc) := by rw [hW1]; exact load_far (w5 := w) hbk hk1
 have hf1' : W1.frozen? ⟨bk, 10, none⟩ = false := by rw [hW1, World.frozen?_alloc_past _ _ _ (by simpa using hbk)]; simpa using hf1
 have WB : Hid (W1.cell? ⟨bk, 6, none⟩ = some (.int .i64 ((k : Int) + 1)) /\ (∀ i, i ≠ 6 -> i ≠ 10 -> W1.cell? ⟨bk, i, none⟩ = w.cell? ⟨bk, i, none⟩) /\ (∀ i, W1.frozen? ⟨bk, i, none⟩ = w.frozen? ⟨bk, i, none⟩) /\ W1.os = w.os /\ W1.tape = w.tape /\ W1.output = w.output) := by
  rw [hW1]
  refine ⟨(World.cell?_alloc_lt _ _ _ (by simpa using hbk)).trans (World.cell?_setCell_same _ _ _ hk0), fun i hi hi4 => (World.cell?_alloc_lt _ _ _ (by simpa using hbk)).trans (World.cell?_setCell_other _ _ _ _ (by intro h'; injection h' with _ h' _; omega)), fun i => (World.frozen?_alloc_past _ _ _ (by simpa using hbk)).trans (by simp), rfl, rfl, rfl⟩
 have K1' := hide hk1'
 have F1' := hide hf1'
 have HW1 := hide hW1
 clear hp hpb hpc hpf hblk hL1 hk1' hf1' hL hLf hW1 hf1
 go_enter Tryz.func119, Tryz.ntmps119
 go_wp2_with fail
 refine (uh hid).mono ?_
 rintro e w2 ⟨rfl, hw⟩
 rw [hw]
 clear hw
 go_wp2_with fail
 rw [<- uh HW1]
 refine (uh hfill).mono ?_
 rintro e w2 ⟨rfl, w1, hF, hw2⟩
 have hne : w.heap.size ≠ gb := by omega
 have hgr := hF.gr
 have hz2 : w.heap.size + 1 <= w2.heap.size := by rw [hw2]; have := hgr.size; simp; omega
 have hpg2 : ∀ j, j ≠ 4 -> w2.cell? ⟨w.heap.size, j, none⟩ = W1.cell? ⟨w.heap.size, j, none⟩ := fun j hj => by
  rw [hw2, World.cell?_setCell_other _ _ _ _ (by intro h'; injection h' with _ h' _; omega)]
  exact hgr.cell_far ⟨w.heap.size, j, none⟩ (by show w.heap.size < _; omega) (by simpa using hne)
 have hpf2 : ∀ j, w2.frozen? ⟨w.heap.size, j, none⟩ = false := fun j => by
  rw [hw2]
  have h := hgr.frozen_far ⟨w.heap.size, j, none⟩ (by show w.heap.size < _; omega) (by simpa using hne)
  simpa using h.trans (uh HPF j)
 have hp42 : w2.cell? ⟨w.heap.size, 4, none⟩ = some (.bool true) := by
  rw [hw2]
  exact World.cell?_setCell_same _ _ _ ((hgr.cell_far ⟨w.heap.size, 4, none⟩ (by show w.heap.size < _; omega) (by simpa using hne)).trans (uh HPC 4))
 have hbl2 : ∀ q, q ≠ w.heap.size -> q ≠ gb -> q < W1.heap.size -> w2.heap[q]? = W1.heap[q]? := fun q h1 h2 h3 => by
  rw [hw2, Below.heap_setCell _ _ _ _ h1]
  exact hgr.block q h3 (by simpa using h2)
 have hown2 : w2.ownsRow C 9 1 (.slice (some ⟨gb, 0, none⟩) n cap) n (scells (mkS (k + 1)) n) := by
  rw [hw2]
  exact row_far (hF.own (uh HL1)) (fun q hq => by injection hq with hq; have hq : gb = q := hq; subst hq; exact Below.heap_setCell _ _ _ _ hne.symm)
 have hgrow := hide (grow_some w.heap.size 0 gb n cap (k + 1) C (by omega) hn w2 (by omega) hne (by omega) ((hpg2 0 (by omega)).trans (uh HPC 0)) ⟨_, (hpg2 1 (by omega)).trans (uh HPC 1)⟩ (hpf2 1) (((hpg2 3 (by omega)).trans (uh HPC 3)).trans (by simp)) ((uh PW1).keep (hbl2 0 (fun e => h3w e.symm) (fun e => h3.2 e.symm) (by have := uh HLT; omega))) ⟨h3w, h3.2⟩ hown2)
 have OS2 : Hid (w2.os = W1.os /\ w2.tape = W1.tape /\ w2.output = W1.output) := by rw [hw2]; exact ⟨hgr.os, hgr.tape, hgr.output⟩
 have HH := hide (And.intro hpg2 (And.intro hpf2 (And.intro hp42 hbl2)))
 clear hpg2 hpf2 hp42 hbl2 hown2 hgr hF hw2
 go_wp2_with fail
 refine (uh hgrow).mono ?_
 rintro e w3 ⟨rfl, v, hG⟩
 obtain ⟨hpg2, hpf2, hp42, hbl2⟩ := uh HH
 have c0 : w3.cell? ⟨w.heap.size, 0, none⟩ = some (.slice (some ⟨gb, 0, none⟩) n cap) := ((hG.page 0 (by omega)).trans (hpg2 0 (by omega))).trans (uh HPC 0)
 have c1 : w3.cell? ⟨w.heap.size, 1, none⟩ = some v := hG.g
 have c2 : w3.cell? ⟨w.heap.size, 2, none⟩ = some (.slice none 0 0) := ((hG.page 2 (by omega)).trans (hpg2 2 (by omega))).trans (uh HPC 2)
 have c3 : w3.cell? ⟨w.heap.size, 3, none⟩ = some (.int .i64 ((k : Int) + 1)) := ((hG.page 3 (by omega)).trans (hpg2 3 (by omega))).trans (uh HPC 3)
 have c4 : w3.cell? ⟨w.heap.size, 4, none⟩ = some (.bool true) := (hG.page 4 (by omega)).trans hp42
 obtain ⟨g3, c3', rfl⟩ := own_open hG.own (by omega)
 have HG := hide hG
 by_cases hkg : bk = gb
 ·exact absurd hkg.symm hgk
 have b3 : w3.heap[bk]? = W1.heap[bk]? := (hG.far bk (by omega) (by omega) hkg).trans (hbl2 bk (by omega) hkg (by omega))
 have t1 : w3.cell? ⟨bk, 10, none⟩ = some (.slice pa m pc) := (World.cell?_of_block b3).trans (uh K1')
 have u1 : w3.frozen? ⟨bk, 10, none⟩ = false := (World.frozen?_of_block b3).trans (uh F1')
 have r3 : Hid (∀ q, q < w.heap.size -> q ≠ bk -> q ≠ gb -> w3.heap[q]? = w.heap[q]?) := fun q h1 h2 h3 => ((hG.far q (by omega) (by omega) h3).trans (hbl2 q (by omega) h3 (by omega))).trans (uh HBL q h1 h2)
 have B3 : Hid (w3.heap[bk]? = W1.heap[bk]?) := b3
 have hz3 : w.heap.size + 1 <= w3.heap.size := Nat.le_trans hz2 hG.size
 have hb3 : bk < w3.heap.size := by omega
 have t1a := fun o => (World.cell?_alloc_lt w3 o ⟨bk, 10, none⟩ hb3).trans t1
 have u1a := hide (fun o => (World.frozen?_alloc_past (w := w3) o bk 10 hb3).trans u1)
 have U1 := hide u1
 clear hpg2 hpf2 hp42 hbl2 hG u1 b3
 go_wp2_with fail
 go_region_law (first
  | (refine step_append_page _ rfl _ _ rfl B (.slice pa m pc) m xs rfl (row_far (uh HP) (fun q hq => by have hq1 := ((uh HP).lt q hq).2; exact (Below.heap_alloc w3 _ _ (by omega)).trans (uh r3 q hq1 (uh HPB q hq).1 (uh HPB q hq).2))) ⟨w3.heap.size, 0, none⟩ 1 [.slice (some ⟨gb, 0, none⟩) n cap, .slice (some ⟨g3, 0, none⟩) (n + 64) c3', .slice none 0 0, .int .i64 ((k : Int) + 1), .bool true] rfl rfl (five_new rfl _ _ _ _ _ _) (by intro u hu; simp at hu; rcases hu with rfl | rfl | rfl | rfl | rfl <;> rfl) (by omega) (by simp; omega) ?_; intro g6 c6 w6 hown6 hgr6 hat6; have O6 := hide hown6; have G6 := hide hgr6; have A6 := hide hat6; have t6 := (hgr6.cell_far ⟨bk, 10, none⟩ (by simp; omega) (fun e => (uh HPB bk e.symm).1 rfl)).trans (t1a _); have f6 := (hgr6.frozen_far ⟨bk, 10, none⟩ (by simp; omega) (fun e => (uh HPB bk e.symm).1 rfl)).trans (uh u1a _); clear hown6 hgr6 hat6))
 all_goals
  go_wp2_with fail
  go_end0
  obtain ⟨wb0, wbi, wbf, wbo, wbt, wbu⟩ := uh WB
  obtain ⟨o1, o2, o3⟩ := uh OS2
  refine ⟨rfl, write_out hbk (by omega) hgk (fun q hq => ⟨uh HPB q hq, ((uh HP).lt q hq).2⟩) ((World.cell?_of_block (uh B3)).trans wb0) (fun i hi hi4 => (World.cell?_of_block (uh B3)).trans (wbi i hi hi4)) (fun i => (World.frozen?_of_block (uh B3)).trans (wbf i)) (uh r3) hz3 (uh HG).own (uh HG).lst ((uh HG).at'.imp id (fun h q hq => by have := h q hq; omega)) (((uh HG).os.trans o1).trans wbo) (((uh HG).tape.trans o2).trans wbt) (((uh HG).output.trans o3).trans wbu) t6 (uh G6) (uh O6) (uh A6)⟩
theorem write_none (bk k B C : Nat) (hk : k < 900) (w : World) (m pc : Nat) (pa : Option Addr) (xs : List Value) (hB : B <= w.heap.size) (hC : C <= w.heap.size) (hm : m < 96) (hk0 : w.cell? ⟨bk, 6, none⟩ = some (.int .i64 (k : Int))) (hk1 : w.cell? ⟨bk, 10, none⟩ = some (.slice pa m pc)) (hf0 : w.frozen? ⟨bk, 6, none⟩ = false) (hf1 : w.frozen? ⟨bk, 10, none⟩ = false)
  (hP : Pw w) (h3 : bk ≠ 0) (hp : w.ownsRow B 122 5 (.slice pa m pc) m xs) (hpb : ∀ q, (Value.slice pa m pc).ownBlock = some q -> q ≠ bk) :
  Calls Tryz.prog 119 #[.pointer (some ⟨bk, 6, none⟩), .slice none 0 0] w fun e w' => e = .returned (.tuple #[]) /\ WriteOut w bk k m B C w.heap.size 0 (.slice none 0 0) (.slice pa m pc) xs w' := by
 have hI1 : (m : Int) < 96 := by omega
 have hbk : bk < w.heap.size := World.block_lt_of_cell? w ⟨bk, 10, none⟩ hk1
 have hid := hide (id_any bk k (by omega) w hk0 hf0)
 have HW : Hid (∃ W1, W1 = (w.setCell ⟨bk, 6, none⟩ (.int .i64 ((k : Int) + 1))).alloc (.cells #[.slice none 0 0, .slice none 0 0, .slice none 0 0, .int .i64 ((k : Int) + 1), .bool false] 122)) := ⟨_, rfl⟩
 obtain ⟨W1, hW1⟩ := uh HW
 have hs1 : (w.setCell ⟨bk, 6, none⟩ (.int .i64 ((k : Int) + 1))).heap.size = w.heap.size := by simp
 have hz1 : W1.heap.size = w.heap.size + 1 := by rw [hW1]; simp
 have hpc : ∀ j, W1.cell? ⟨w.heap.size, j, none⟩ = (#[.slice none 0 0, .slice none 0 0, .slice none 0 0, .int .i64 ((k : Int) + 1), .bool false] : Array Value)[j]? := by
  intro j
  rw [hW1, <- hs1, World.cell?_alloc_mark]
 have hpf : ∀ j, W1.frozen? ⟨w.heap.size, j, none⟩ = false := by
  intro j
  rw [hW1]
  exact World.frozen?_alloc_at _ _ _ _ hs1.symm
 have hblk : ∀ q, q < w.heap.size -> q ≠ bk -> W1.heap[q]? = w.heap[q]? := by
  intro q hq h1
  rw [hW1, Below.heap_alloc _ _ _ (by simpa using hq), Below.heap_setCell _ _ _ _ h1]
 have PW1 := hide (hP.keep (hblk 0 hP.lt (fun e => h3 e.symm)))
 have h3w : w.heap.size ≠ 0 := by have := hP.lt; omega
 have HLT := hide hP.lt
 have hfill := hide (fill_none w.heap.size 0 W1 (hpc 0) ⟨_, hpc 4⟩ (hpf 4))
 have HP := hide hp
 have HPB := hide hpb
 have HK1 := hide hk1
 have HF1 := hide hf1
 have HPC := hide hpc
 have HPF := hide hpf
 have HBL := hide hblk
 have hk1' : W1.cell? ⟨bk, 10, none⟩ = some (.slice pa m pc) := by rw [hW1]; exact load_far (w5 := w) hbk hk1
 have hf1' : W1.frozen? ⟨bk, 10, none⟩ = false := by rw [hW1, World.frozen?_alloc_past _ _ _ (by simpa using hbk)]; simpa using hf1
 have WB : Hid (W1.cell? ⟨bk, 6, none⟩ = some (.int .i64 ((k : Int) + 1)) /\ (∀ i, i ≠ 6 -> i ≠ 10 -> W1.cell? ⟨bk, i, none⟩ = w.cell? ⟨bk, i, none⟩) /\ (∀ i, W1.frozen? ⟨bk, i, none⟩ = w.frozen? ⟨bk, i, none⟩) /\ W1.os = w.os /\ W1.tape = w.tape /\ W1.output = w.output) := by
  rw [hW1]
  refine ⟨(World.cell?_alloc_lt _ _ _ (by simpa using hbk)).trans (World.cell?_setCell_same _ _ _ hk0), fun i hi hi4 => (World.cell?_alloc_lt _ _ _ (by simpa using hbk)).trans (World.cell?_setCell_other _ _ _ _ (by intro h'; injection h' with _ h' _; omega)), fun i => (World.frozen?_alloc_past _ _ _ (by simpa using hbk)).trans (by simp), rfl, rfl, rfl⟩
 have K1' := hide hk1'
 have F1' := hide hf1'
 have HW1 := hide hW1
 clear hp hpb hpc hpf hblk hk1' hf1' hW1 hf1
 go_enter Tryz.func119, Tryz.ntmps119
 go_wp2_with fail
 refine (uh hid).mono ?_
 rintro e w2 ⟨rfl, hw⟩
 rw [hw]
 clear hw
 go_wp2_with fail
 rw [<- uh HW1]
 refine (uh hfill).mono ?_
 rintro e w2 ⟨rfl, hw2⟩
 have hz2 : w2.heap.size = w.heap.size + 1 := by rw [hw2]; simp; omega
 have hpg2 : ∀ j, j ≠ 4 -> w2.cell? ⟨w.heap.size, j, none⟩ = W1.cell? ⟨w.heap.size, j, none⟩ := fun j hj => by
  rw [hw2]
  exact World.cell?_setCell_other _ _ _ _ (by intro h'; injection h' with _ h' _; omega)
 have hpf2 : ∀ j, w2.frozen? ⟨w.heap.size, j, none⟩ = false := fun j => by
  rw [hw2]
  simpa using uh HPF j
 have hp42 : w2.cell? ⟨w.heap.size, 4, none⟩ = some (.bool true) := by
  rw [hw2]
  exact World.cell?_setCell_same _ _ _ (uh HPC 4)
 have hbl2 : ∀ q, q ≠ w.heap.size -> w2.heap[q]? = W1.heap[q]? := fun q h1 => by
  rw [hw2, Below.heap_setCell _ _ _ _ h1]
 have hgrow := hide (grow_none w.heap.size 0 (k + 1) C (by omega) w2 (by omega) ((hpg2 0 (by omega)).trans (uh HPC 0)) ⟨_, (hpg2 1 (by omega)).trans (uh HPC 1)⟩ (hpf2 1) (((hpg2 3 (by omega)).trans (uh HPC 3)).trans (by simp)) ((uh PW1).keep (hbl2 0 (fun e => h3w e.symm))) h3w)
 have OS2 : Hid (w2.os = W1.os /\ w2.tape = W1.tape /\ w2.output = W1.output) := by rw [hw2]; exact ⟨rfl, rfl, rfl⟩
 have HH := hide (And.intro hpg2 (And.intro hpf2 (And.intro hp42 hbl2)))
 clear hpg2 hpf2 hp42 hbl2 hw2
 go_wp2_with fail
 refine (uh hgrow).mono ?_
 rintro e w3 ⟨rfl, v, hG⟩
 obtain ⟨hpg2, hpf2, hp42, hbl2⟩ := uh HH
 have c0 : w3.cell? ⟨w.heap.size, 0, none⟩ = some (.slice none 0 0) := ((hG.page 0 (by omega)).trans (hpg2 0 (by omega))).trans (uh HPC 0)
 have c1 : w3.cell? ⟨w.heap.size, 1, none⟩ = some v := hG.g
 have c2 : w3.cell? ⟨w.heap.size, 2, none⟩ = some (.slice none 0 0) := ((hG.page 2 (by omega)).trans (hpg2 2 (by omega))).trans (uh HPC 2)
 have c3 : w3.cell? ⟨w.heap.size, 3, none⟩ = some (.int .i64 ((k : Int) + 1)) := ((hG.page 3 (by omega)).trans (hpg2 3 (by omega))).trans (uh HPC 3)
 have c4 : w3.cell? ⟨w.heap.size, 4, none⟩ = some (.bool true) := (hG.page 4 (by omega)).trans hp42
 obtain ⟨g3, c3', rfl⟩ := own_open hG.own (by omega)
 have HG := hide hG
 have b3 : w3.heap[bk]? = W1.heap[bk]? := (hG.far bk (by omega) (by omega) (by omega)).trans (hbl2 bk (by omega))
 have t1 : w3.cell? ⟨bk, 10, none⟩ = some (.slice pa m pc) := (World.cell?_of_block b3).trans (uh K1')
 have u1 : w3.frozen? ⟨bk, 10, none⟩ = false := (World.frozen?_of_block b3).trans (uh F1')
 have r3 : Hid (∀ q, q < w.heap.size -> q ≠ bk -> q ≠ w.heap.size -> w3.heap[q]? = w.heap[q]?) := fun q h1 h2 h3 => ((hG.far q (by omega) (by omega) (by omega)).trans (hbl2 q (by omega))).trans (uh HBL q h1 h2)
 have B3 : Hid (w3.heap[bk]? = W1.heap[bk]?) := b3
 have hz3 : w.heap.size + 1 <= w3.heap.size := by have := hG.size; omega
 have hb3 : bk < w3.heap.size := by omega
 have t1a := fun o => (World.cell?_alloc_lt w3 o ⟨bk, 10, none⟩ hb3).trans t1
 have u1a := hide (fun o => (World.frozen?_alloc_past (w := w3) o bk 10 hb3).trans u1)
 have U1 := hide u1
 clear hpg2 hpf2 hp42 hbl2 hG u1 b3
 go_wp2_with fail
 go_region_law (first
  | (refine step_append_page _ rfl _ _ rfl B (.slice pa m pc) m xs rfl (row_far (uh HP) (fun q hq => by have hq1 := ((uh HP).lt q hq).2; exact (Below.heap_alloc w3 _ _ (by omega)).trans (uh r3 q hq1 (uh HPB q hq) (by omega)))) ⟨w3.heap.size, 0, none⟩ 1 [.slice none 0 0, .slice (some ⟨g3, 0, none⟩) (0 + 64) c3', .slice none 0 0, .int .i64 ((k : Int) + 1), .bool true] rfl rfl (five_new rfl _ _ _ _ _ _) (by intro u hu; simp at hu; rcases hu with rfl | rfl | rfl | rfl | rfl <;> rfl) (by omega) (by simp; omega) ?_; intro g6 c6 w6 hown6 hgr6 hat6; have O6 := hide hown6; have G6 := hide hgr6; have A6 := hide hat6; have t6 := (hgr6.cell_far ⟨bk, 10, none⟩ (by simp; omega) (fun e => uh HPB bk e.symm rfl)).trans (t1a _); have f6 := (hgr6.frozen_far ⟨bk, 10, none⟩ (by simp; omega) (fun e => uh HPB bk e.symm rfl)).trans (uh u1a _); clear hown6 hgr6 hat6))
 all_goals
  go_wp2_with fail
  go_end0
  obtain ⟨wb0, wbi, wbf, wbo, wbt, wbu⟩ := uh WB
  obtain ⟨o1, o2, o3⟩ := uh OS2
  refine ⟨rfl, write_out (gb := w.heap.size) (n := 0) hbk (by omega) (by omega) (fun q hq => by have := ((uh HP).lt q hq).2; exact ⟨⟨uh HPB q hq, by omega⟩, this⟩) ((World.cell?_of_block (uh B3)).trans wb0) (fun i hi hi4 => (World.cell?_of_block (uh B3)).trans (wbi i hi hi4)) (fun i => (World.frozen?_of_block (uh B3)).trans (wbf i)) (uh r3) hz3 (uh HG).own (fun j hj => absurd hj (Nat.not_lt_zero j)) (.inr (fun q hq => (uh HG).at'.elim (fun h => by rw [h] at hq; injection hq with hq; omega) (fun h => by have := h q hq; omega))) (((uh HG).os.trans o1).trans wbo) (((uh HG).tape.trans o2).trans wbt) (((uh HG).output.trans o3).trans wbu) t6 (uh G6) (uh O6) (uh A6)⟩
end Go.Proofs.YtpeohbkigkfcgaaGreatDoor.Kt
