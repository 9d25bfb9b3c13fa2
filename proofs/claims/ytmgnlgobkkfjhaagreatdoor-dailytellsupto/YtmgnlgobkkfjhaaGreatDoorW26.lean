import Derived.Test.YtmgnlgobkkfjhaaGreatDoorW25
/- The keeper's days: Keep (29), Write (30). By tools/genkc.py. -/
namespace Go.Proofs.YtmgnlgobkkfjhaaGreatDoor.Kg
open Go Go.Shelf Go.ChangeShapes Go.WideShapes Go.ChangeAt Go.RowKit Go.Maps
set_option linter.unusedVariables false
set_option linter.unusedSimpArgs false
theorem own_litQ (w : World) : (w.drew.alloc (.cells #[] 38)).ownsRow w.heap.size 38 4 (.slice (some ⟨w.heap.size, 0, none⟩) 0 0) 0 (kQ.flat []) := by
  refine ⟨by simp [Kd.flat], .inr ⟨w.heap.size, 0, #[], rfl, Nat.le_refl _, ?_, Nat.le_refl _, Nat.zero_le _, by simp, by simp [Kd.flat]⟩⟩
  exact heap_new w.drew _
set_option maxRecDepth 100000 in
set_option maxHeartbeats 8000000 in
theorem keepOutQ (bk k n cc : Nat) (pp : Option Addr) (X : List Dq) (hk : k < 900) (hX : X.length = n) (hn : n ≤ 900000) (w : World) (m pc : Nat) (pa : Option Addr) (xs : List Value) (hm : m < 96) (hk0 : w.cell? ⟨bk, 0, none⟩ = some (.int .i64 (k : Int))) (hk1 : w.cell? ⟨bk, 11, none⟩ = some (.slice pa m pc)) (hf0 : w.frozen? ⟨bk, 0, none⟩ = false) (hf1 : w.frozen? ⟨bk, 11, none⟩ = false)
    (hL : Lies kQ w pp X) (hcc : pp = none → cc = 0) (hp : w.ownsRow 0 121 5 (.slice pa m pc) m xs) (hpb : ∀ q, (Value.slice pa m pc).ownBlock = some q → q ≠ bk) :
    Calls Tryz.prog 29 #[.pointer (some ⟨bk, 0, none⟩), .slice pp n cc] w fun e w' => e = .returned (.tuple #[]) ∧ KeepOut zQ w bk k m (.slice pp n cc) n X (.slice pa m pc) xs w' := by
  have hI1 : (m : Int) < 96 := by omega
  have hbk : bk < w.heap.size := World.block_lt_of_cell? w ⟨bk, 11, none⟩ hk1
  have b0 : Below w.heap.size w (w.drew.alloc (.cells #[] 38)) := bal (below_drewN (Below.refl _ w) 1) _
  obtain ⟨p5, c5, w5, r5, o5, b5, _⟩ := run_app (K := kQ) kQ_ok (L := []) (M := X) 22 (own_litQ w) (by simp) pp cc hcc (hL.below b0) (by omega)
  rw [hX, Nat.zero_add] at r5 o5
  rw [List.nil_append] at o5
  have hb5 : Below w.heap.size w w5 := b0.trans b5
  have k1a : (w.drew.alloc (.cells #[] 38)).cell? ⟨bk, 11, none⟩ = some (.slice pa m pc) := keep1 b0 hbk hk1
  have t0 := keep1 hb5 hbk hk0
  have t1 := keep1 hb5 hbk hk1
  have u0 := keepF hb5 hbk hf0
  have u1 := keepF hb5 hbk hf1
  have hbk5 : bk < w5.heap.size := Nat.lt_of_lt_of_le hbk hb5.size
  have hid := hide (id_any bk k (by omega) w5 t0 u0)
  have t1c : (w5.setCell ⟨bk, 0, none⟩ (.int .i64 ((k : Int) + 1))).cell? ⟨bk, 11, none⟩ = some (.slice pa m pc) := (World.cell?_setCell_other _ _ _ _ (by intro h'; injection h' with _ h' _; omega)).trans t1
  have t1b : ∀ o, ((w5.setCell ⟨bk, 0, none⟩ (.int .i64 ((k : Int) + 1))).alloc o).cell? ⟨bk, 11, none⟩ = some (.slice pa m pc) := fun o => (World.cell?_alloc_lt _ _ _ (by simpa using hbk5)).trans t1c
  obtain ⟨O6, hO6⟩ : ∃ O6 : Obj, O6 = .cells #[.slice pp n cc, .slice none 0 0, .slice p5 n c5, .int .i64 ((k : Int) + 1), .bool false] 121 := ⟨_, rfl⟩
  have hrow6 : ((w5.setCell ⟨bk, 0, none⟩ (.int .i64 ((k : Int) + 1))).alloc O6).ownsRow 0 121 5 (.slice pa m pc) m xs := row_far hp fun q hq => by
    have hq1 := (row_lt hp hq).2
    rw [Below.heap_alloc _ _ _ (by simpa using Nat.lt_of_lt_of_le hq1 hb5.size), heap_set (hpb q hq)]
    exact hb5.block q hq1
  obtain ⟨g6, c6, w6, r6, o6, gr6, at6⟩ := run_page zQ_ok 54 hrow6 ⟨w5.heap.size, 0, none⟩ 1 [.slice pp n cc, .slice none 0 0, .slice p5 n c5, .int .i64 ((k : Int) + 1), .bool false] rfl (by rw [hO6]; exact five_new (by simp) _ _ _ _ _ _) one5 (by omega)
  have hbk6 : bk < ((w5.setCell ⟨bk, 0, none⟩ (.int .i64 ((k : Int) + 1))).alloc O6).heap.size := by simp; omega
  have t6 : w6.cell? ⟨bk, 11, none⟩ = some (.slice pa m pc) := (gr6.cell_far ⟨bk, 11, none⟩ hbk6 (fun e => hpb bk e.symm rfl)).trans (t1b O6)
  have u6 : w6.frozen? ⟨bk, 11, none⟩ = false := by
    have h := (gr6.frozen_far ⟨bk, 11, none⟩ hbk6 (fun e => hpb bk e.symm rfl)).trans (World.frozen?_alloc_past (w := w5.setCell ⟨bk, 0, none⟩ (.int .i64 ((k : Int) + 1))) O6 bk 11 (by simpa using hbk5))
    rw [h]
    simpa using u1
  have HF : Hid (KeepOut zQ w bk k m (.slice pp n cc) n X (.slice pa m pc) xs (w6.setCell ⟨bk, 11, none⟩ (.slice (some ⟨g6, 0, none⟩) (m + 1) c6))) :=
    keep_out zQ_ok hbk (fun q hq => ⟨hpb q hq, (row_lt hp hq).2⟩) hb5 o5 t0 t6 gr6 o6 at6
  have HR5 := hide r5; have HR6 := hide r6
  clear hp hpb hL hcc b0 o5 b5 hb5 t0 u0 u1 hrow6 o6 gr6 at6 hbk6 r5 r6 hk0 hf0
  subst hO6
  go_enter Tryz.func29, Tryz.ntmps29
  go_wp2_with fail
  refine wp_region_last (n := 16) (S := fun W => W.cell? ⟨bk, 11, none⟩ = some (.slice pa m pc)) (by kernel_rfl) (by first | (exact hk1)) (fun hHeld => ?_)
  refine tkW 0 ?_
  refine tkW 1 ?_
  refine tkW 2 ?_
  refine tkW 3 ?_
  refine tkS 4 ?_
  refine tkW 5 ?_
  refine tkW 7 ?_
  refine tkW 9 ?_
  refine wpAnyL_one (i := 6) (by kernel_rfl) rfl (fun KK hK => ?_)
  go_simp
  refine hK.out _ _ (by first | (exact k1a)) (fun hHeld => ?_)
  clear hK KK
  refine wpAnyL_one (i := 8) (by kernel_rfl) rfl (fun KK hK => ?_)
  refine step_append_run _ (by rfl) _ _ 22 (by rfl) _ _ _ _ (by rfl) (by rfl) (unhide HR5) ?_
  refine hK.out _ _ (by first | (exact t1)) (fun hHeld => ?_)
  clear hK KK
  refine wpAnyL_one (i := 10) (by kernel_rfl) rfl (fun KK hK => ?_)
  go_simp
  go_wp2_with (first | (go_at_call 92; refine (unhide hid).mono ?_; rintro e w2 ⟨rfl, hw⟩; rw [hw]; clear hw w2))
  refine hK.out _ _ (by first | (exact t1c)) (fun hHeld => ?_)
  clear hK KK
  refine tkW 11 ?_
  refine wpAnyL_one (i := 12) (by kernel_rfl) rfl (fun KK hK => ?_)
  go_simp
  refine hK.out _ _ (by first | (exact t1b _)) (fun hHeld => ?_)
  clear hK KK
  refine wpAnyL_one (i := 13) (by kernel_rfl) rfl (fun KK hK => ?_)
  refine step_append_run _ (by rfl) _ _ 54 (by rfl) _ _ _ _ (by rfl) (by rfl) (unhide HR6) ?_
  refine hK.out _ _ (by first | (exact t6)) (fun hHeld => ?_)
  clear hK KK
  refine tkW 14 ?_
  refine tkW 15 ?_
  refine wpAnyL_end (i := 16) (by kernel_rfl) rfl (by kernel_rfl) (by kernel_rfl) (fun KK hK => ?_)
  go_simp
  refine hK.out _ _ ?_
  clear hK KK
  go_wp2_with fail
  go_end0
  exact ⟨rfl, unhide HF⟩
set_option maxRecDepth 100000 in
set_option maxHeartbeats 8000000 in
theorem writeOutQ (bk k n : Nat) (L : Value) (X : List Dq) (hk : k < 900) (hX : X.length = n) (hn : n ≤ 900000) (w : World) (m pc : Nat) (pa : Option Addr) (xs : List Value) (hm : m < 96) (hk0 : w.cell? ⟨bk, 0, none⟩ = some (.int .i64 (k : Int))) (hk1 : w.cell? ⟨bk, 11, none⟩ = some (.slice pa m pc)) (hf0 : w.frozen? ⟨bk, 0, none⟩ = false) (hf1 : w.frozen? ⟨bk, 11, none⟩ = false)
    (hP : Pw w) (hb1 : bk ≠ 1) (hL : w.ownsRow 0 38 4 L n (kQ.flat X)) (hL1 : L.ownBlock ≠ some 1) (hLb : L.ownBlock ≠ some bk) (hp : w.ownsRow 0 121 5 (.slice pa m pc) m xs) (hpb : ∀ q, (Value.slice pa m pc).ownBlock = some q → q ≠ bk ∧ L.ownBlock ≠ some q) :
    Calls Tryz.prog 30 #[.pointer (some ⟨bk, 0, none⟩), L] w fun e w' => e = .returned (.tuple #[]) ∧ WriteOut zQ w bk k m L n (.slice pa m pc) xs w' := by
  have hI1 : (m : Int) < 96 := by omega
  have hbk : bk < w.heap.size := World.block_lt_of_cell? w ⟨bk, 11, none⟩ hk1
  have hid := hide (id_any bk k (by omega) w hk0 hf0)
  have hLlt : ∀ q, L.ownBlock = some q → q < w.heap.size := fun q hq => (row_lt hL hq).2
  obtain ⟨pp, cc, eL, _⟩ := row_slice hL
  obtain ⟨W1, hW1⟩ : ∃ W1, W1 = (w.setCell ⟨bk, 0, none⟩ (.int .i64 ((k : Int) + 1))).alloc (.cells #[.slice pp n cc, .slice none 0 0, .slice none 0 0, .int .i64 ((k : Int) + 1), .bool false] 121) := ⟨_, rfl⟩
  have hs1 : (w.setCell ⟨bk, 0, none⟩ (.int .i64 ((k : Int) + 1))).heap.size = w.heap.size := by simp
  have hz1 : W1.heap.size = w.heap.size + 1 := by rw [hW1]; simp
  have hpc : ∀ j, W1.cell? ⟨w.heap.size, j, none⟩ = (#[.slice pp n cc, .slice none 0 0, .slice none 0 0, .int .i64 ((k : Int) + 1), .bool false] : Array Value)[j]? := by
    intro j
    rw [hW1, ← hs1, World.cell?_alloc_mark]
  have hpf : ∀ j, W1.frozen? ⟨w.heap.size, j, none⟩ = false := by
    intro j
    rw [hW1]
    exact World.frozen?_alloc_at _ _ _ _ hs1.symm
  have hblk : ∀ q, q < w.heap.size → q ≠ bk → W1.heap[q]? = w.heap[q]? := by
    intro q hq h1
    rw [hW1, Below.heap_alloc _ _ _ (by simpa using hq), heap_set h1]
  have hLa : ∀ q, L.ownBlock = some q → q ≠ bk := fun q hq e => hLb (by rw [← e]; exact hq)
  have hL1' : W1.ownsRow 0 38 4 L n (kQ.flat X) := row_far hL (fun q hq => hblk q (hLlt q hq) (hLa q hq))
  have PW1 := hP.keep (hblk 1 hP.lt (fun e => hb1 e.symm))
  have h3w : w.heap.size ≠ 1 := by have := hP.lt; omega
  have hLw : L.ownBlock ≠ some w.heap.size := fun e => by have := hLlt _ e; omega
  have hfill := hide (fillQ w.heap.size 0 L n (k + 1) X W1 hn (by omega) hX hL1' hLw hL1 ((hpc 0).trans (by rw [eL]; rfl)) ((hpc 3).trans (by simp)) ⟨_, hpc 4⟩ (hpf 4) PW1)
  have HBK : Hid (W1.cell? ⟨bk, 0, none⟩ = some (.int .i64 ((k : Int) + 1)) ∧ W1.cell? ⟨bk, 11, none⟩ = some (.slice pa m pc) ∧ (∀ i, i ≠ 0 → W1.cell? ⟨bk, i, none⟩ = w.cell? ⟨bk, i, none⟩) ∧ (∀ i, W1.frozen? ⟨bk, i, none⟩ = w.frozen? ⟨bk, i, none⟩) ∧ W1.os = w.os ∧ W1.tape = w.tape ∧ W1.output = w.output) := by
    rw [hW1]
    have hot : ∀ i, i ≠ 0 → ((w.setCell ⟨bk, 0, none⟩ (.int .i64 ((k : Int) + 1))).alloc (.cells #[.slice pp n cc, .slice none 0 0, .slice none 0 0, .int .i64 ((k : Int) + 1), .bool false] 121)).cell? ⟨bk, i, none⟩ = w.cell? ⟨bk, i, none⟩ := fun i hi => (World.cell?_alloc_lt _ _ _ (by simpa using hbk)).trans (World.cell?_setCell_other _ _ _ _ (by intro h'; injection h' with _ h' _; omega))
    exact ⟨(World.cell?_alloc_lt _ _ _ (by simpa using hbk)).trans (World.cell?_setCell_same _ _ _ hk0), (hot 11 (by omega)).trans hk1, hot, fun i => (World.frozen?_alloc_past _ _ _ (by simpa using hbk)).trans (by simp), rfl, rfl, rfl⟩
  have HP := hide hp; have HPB := hide hpb; have HPC := hide hpc; have HPF := hide hpf; have HBL := hide hblk; have HW1 := hide hW1; have HLLT := hide hLlt; have HLA := hide hLa; have HF1 := hide hf1; have HPW1 := hide PW1; have HLT := hide hP.lt; have HLL := hide hL1; have HLW := hide hLw
  subst eL
  clear hp hpb hpc hpf hblk hL1' hL hLlt hLa hW1 hf1 PW1 hP hL1 hLb hLw hf0 hk0
  go_enter Tryz.func30, Tryz.ntmps30
  go_wp2_with fail
  refine (unhide hid).mono ?_
  rintro e w2 ⟨rfl, hw⟩
  rw [hw]
  clear hw hk1
  go_wp2_with fail
  rw [← unhide HW1]
  refine (unhide hfill).mono ?_
  rintro e w2 ⟨rfl, w1, hF, hw2⟩
  have hgr := hF.gr
  have hne : some w.heap.size ≠ (Value.slice pp n cc).ownBlock := fun e => unhide HLW e.symm
  have hz2 : w.heap.size + 1 ≤ w2.heap.size := by rw [hw2]; have := hgr.size; simp; omega
  have hpg2 : ∀ j, j ≠ 4 → w2.cell? ⟨w.heap.size, j, none⟩ = W1.cell? ⟨w.heap.size, j, none⟩ := fun j hj => by
    rw [hw2, World.cell?_setCell_other _ _ _ _ (by intro h'; injection h' with _ h' _; omega)]
    exact hgr.cell_far ⟨w.heap.size, j, none⟩ (by show w.heap.size < _; omega) hne
  have hpf2 : ∀ j, w2.frozen? ⟨w.heap.size, j, none⟩ = false := fun j => by
    rw [hw2]
    have h := hgr.frozen_far ⟨w.heap.size, j, none⟩ (by show w.heap.size < _; omega) hne
    simpa using h.trans (unhide HPF j)
  have hp42 : w2.cell? ⟨w.heap.size, 4, none⟩ = some (.bool true) := by
    rw [hw2]
    exact World.cell?_setCell_same _ _ _ ((hgr.cell_far ⟨w.heap.size, 4, none⟩ (by show w.heap.size < _; omega) hne).trans (unhide HPC 4))
  have hbl2 : ∀ q, q ≠ w.heap.size → some q ≠ (Value.slice pp n cc).ownBlock → q < W1.heap.size → w2.heap[q]? = W1.heap[q]? := fun q h1 h2 h3 => by
    rw [hw2, heap_set h1]
    exact hgr.block q h3 h2
  have hown2 : w2.ownsRow 0 38 4 (.slice pp n cc) n (kQ.flat (mks zQ (k + 1) n)) := by
    rw [hw2]
    exact row_far (hF.full hX) (fun q hq => heap_set (fun e => unhide HLW (by rw [← e]; exact hq)))
  have hPw2 : Pw w2 := (unhide HPW1).keep (hbl2 1 (fun e => h3w e.symm) (fun e => unhide HLL e.symm) (by have := unhide HLT; omega))
  have hgrow := hide (growQ w.heap.size 0 (.slice pp n cc) n (k + 1) w2 hn (by omega) hown2 (unhide HLW) (unhide HLL) h3w ((hpg2 0 (by omega)).trans (unhide HPC 0)) ⟨_, (hpg2 1 (by omega)).trans (unhide HPC 1)⟩ (hpf2 1) (((hpg2 3 (by omega)).trans (unhide HPC 3)).trans (by simp)) hPw2)
  have OS2 : Hid (w2.os = W1.os ∧ w2.tape = W1.tape ∧ w2.output = W1.output) := by rw [hw2]; exact ⟨hgr.os, hgr.tape, hgr.output⟩
  have HH := hide (And.intro hpg2 (And.intro hpf2 (And.intro hp42 hbl2)))
  clear hpg2 hpf2 hp42 hbl2 hown2 hgr hF hw2 hPw2 hne
  go_wp2_with fail
  refine (unhide hgrow).mono ?_
  rintro e w3 ⟨rfl, v, hG⟩
  obtain ⟨hpg2, hpf2, hp42, hbl2⟩ := unhide HH
  have c0 : w3.cell? ⟨w.heap.size, 0, none⟩ = some (.slice pp n cc) := ((hG.cell (by omega)).trans (hpg2 0 (by omega))).trans (unhide HPC 0)
  have c1 : w3.cell? ⟨w.heap.size, 1, none⟩ = some v := hG.g ((hpg2 1 (by omega)).trans (unhide HPC 1))
  have c2 : w3.cell? ⟨w.heap.size, 2, none⟩ = some (.slice none 0 0) := ((hG.cell (by omega)).trans (hpg2 2 (by omega))).trans (unhide HPC 2)
  have c3 : w3.cell? ⟨w.heap.size, 3, none⟩ = some (.int .i64 ((k : Int) + 1)) := ((hG.cell (by omega)).trans (hpg2 3 (by omega))).trans (unhide HPC 3)
  have c4 : w3.cell? ⟨w.heap.size, 4, none⟩ = some (.bool true) := (hG.cell (by omega)).trans hp42
  obtain ⟨g3, c3', e3⟩ := own_open hG.own (by omega)
  subst e3
  have b3 : w3.heap[bk]? = W1.heap[bk]? := (hG.far bk (by omega) (by omega) (fun e => unhide HLA bk e rfl)).trans (hbl2 bk (by omega) (fun e => unhide HLA bk e.symm rfl) (by omega))
  obtain ⟨wb0, wb1, wbi, wbf, wbo, wbt, wbu⟩ := unhide HBK
  obtain ⟨o1, o2, o3⟩ := unhide OS2
  have t1 : w3.cell? ⟨bk, 11, none⟩ = some (.slice pa m pc) := (World.cell?_of_block b3).trans wb1
  have u1 : w3.frozen? ⟨bk, 11, none⟩ = false := ((World.frozen?_of_block b3).trans (wbf 11)).trans (unhide HF1)
  have r3 : ∀ q, q < w.heap.size → q ≠ bk → (Value.slice pp n cc).ownBlock ≠ some q → w3.heap[q]? = w.heap[q]? := fun q h1 h2 h3 => ((hG.far q (by omega) (by omega) h3).trans (hbl2 q (by omega) (fun e => h3 e.symm) (by omega))).trans (unhide HBL q h1 h2)
  have hz3 : w.heap.size + 1 ≤ w3.heap.size := Nat.le_trans hz2 hG.size
  have hb3 : bk < w3.heap.size := by omega
  obtain ⟨O6, hO6⟩ : ∃ O6 : Obj, O6 = .cells #[.slice pp n cc, .slice (some ⟨g3, 0, none⟩) (n + 64) c3', .slice none 0 0, .int .i64 ((k : Int) + 1), .bool true] 121 := ⟨_, rfl⟩
  have hrow6 : (w3.drew.alloc O6).ownsRow 0 121 5 (.slice pa m pc) m xs := row_far (unhide HP) fun q hq => by
    have hq1 := (row_lt (unhide HP) hq).2
    exact (Below.heap_alloc w3.drew _ _ (by show q < w3.heap.size; omega)).trans (r3 q hq1 (unhide HPB q hq).1 (unhide HPB q hq).2)
  obtain ⟨g6, c6, w6, r6, o6, gr6, at6⟩ := run_page zQ_ok 54 hrow6 ⟨w3.heap.size, 0, none⟩ 1 [.slice pp n cc, .slice (some ⟨g3, 0, none⟩) (n + 64) c3', .slice none 0 0, .int .i64 ((k : Int) + 1), .bool true] rfl (by rw [hO6]; exact five_new rfl _ _ _ _ _ _) one5 (by omega)
  have hbk6 : bk < (w3.drew.alloc O6).heap.size := by simp; omega
  have hnb : some bk ≠ (Value.slice pa m pc).ownBlock := fun e => (unhide HPB bk e.symm).1 rfl
  have t6 : w6.cell? ⟨bk, 11, none⟩ = some (.slice pa m pc) := (gr6.cell_far ⟨bk, 11, none⟩ hbk6 hnb).trans ((World.cell?_alloc_lt w3.drew _ _ hb3).trans t1)
  have u6 : w6.frozen? ⟨bk, 11, none⟩ = false := (gr6.frozen_far ⟨bk, 11, none⟩ hbk6 hnb).trans ((World.frozen?_alloc_past (w := w3.drew) O6 bk 11 hb3).trans u1)
  have HF : Hid (WriteOut zQ w bk k m (.slice pp n cc) n (.slice pa m pc) xs (w6.setCell ⟨bk, 11, none⟩ (.slice (some ⟨g6, 0, none⟩) (m + 1) c6))) :=
    write_out (w3 := w3) (o := O6) hbk (fun q hq => ⟨unhide HLA q hq, unhide HLLT q hq⟩) (fun q hq => ⟨unhide HPB q hq, (row_lt (unhide HP) hq).2⟩) ((World.cell?_of_block b3).trans wb0) (fun i hi hi4 => (World.cell?_of_block b3).trans (wbi i hi)) (fun i => (World.frozen?_of_block b3).trans (wbf i)) (by decide) r3 hz3 hG.own hG.lst (hG.at'.imp id (fun h q hq => by have := h q hq; omega)) ((hG.os.trans o1).trans wbo) ((hG.tape.trans o2).trans wbt) ((hG.output.trans o3).trans wbu) t6 gr6 o6 at6
  have s1 : (w3.drew.alloc O6).cell? ⟨bk, 11, none⟩ = some (.slice pa m pc) := (World.cell?_alloc_lt w3.drew _ _ hb3).trans t1
  have sp : ∀ i u, w3.cell? ⟨w.heap.size, i, none⟩ = some u → (w3.drew.alloc O6).cell? ⟨w.heap.size, i, none⟩ = some u := fun i u h => (World.cell?_alloc_lt w3.drew _ _ (by show w.heap.size < w3.heap.size; omega)).trans h
  have s6 : ∀ i u, w3.cell? ⟨w.heap.size, i, none⟩ = some u → w6.cell? ⟨w.heap.size, i, none⟩ = some u := fun i u h => (gr6.cell_far ⟨w.heap.size, i, none⟩ (by simp; omega) (fun e => absurd (row_lt (unhide HP) (q := w.heap.size) e.symm).2 (Nat.lt_irrefl _))).trans (sp i u h)
  have HR6 := hide r6; have SP := hide sp; have S6 := hide s6
  clear hpg2 hpf2 hp42 hbl2 hG b3 wb0 wb1 wbi wbf wbo wbt wbu o1 o2 o3 u1 r3 hrow6 o6 gr6 at6 hbk6 hnb r6 sp s6
  subst hO6
  go_wp2_with fail
  refine wp_region_last (n := 10) (S := fun W => W.cell? ⟨bk, 11, none⟩ = some (.slice pa m pc) ∧ W.cell? ⟨w.heap.size, 0, none⟩ = some (.slice pp n cc) ∧ W.cell? ⟨w.heap.size, 1, none⟩ = some (.slice (some ⟨g3, 0, none⟩) (n + 64) c3') ∧ W.cell? ⟨w.heap.size, 2, none⟩ = some (.slice none 0 0) ∧ W.cell? ⟨w.heap.size, 3, none⟩ = some (.int .i64 ((k : Int) + 1)) ∧ W.cell? ⟨w.heap.size, 4, none⟩ = some (.bool true)) (by kernel_rfl) (by first | (exact ⟨t1, c0, c1, c2, c3, c4⟩)) (fun hHeld => ?_)
  refine tkW 0 ?_
  refine tkW 1 ?_
  refine tkW 2 ?_
  refine tkW 3 ?_
  refine tkS 4 ?_
  refine tkS 5 ?_
  refine wpAnyL_one (i := 6) (by kernel_rfl) rfl (fun KK hK => ?_)
  go_simp
  refine hK.out _ _ (by first | (exact ⟨s1, unhide SP _ _ c0, unhide SP _ _ c1, unhide SP _ _ c2, unhide SP _ _ c3, unhide SP _ _ c4⟩)) (fun hHeld => ?_)
  clear hK KK
  refine wpAnyL_one (i := 7) (by kernel_rfl) rfl (fun KK hK => ?_)
  refine step_append_run _ (by rfl) _ _ 54 (by rfl) _ _ _ _ (by rfl) (by rfl) (unhide HR6) ?_
  refine hK.out _ _ (by first | (exact ⟨t6, unhide S6 _ _ c0, unhide S6 _ _ c1, unhide S6 _ _ c2, unhide S6 _ _ c3, unhide S6 _ _ c4⟩)) (fun hHeld => ?_)
  clear hK KK
  refine tkW 8 ?_
  refine tkW 9 ?_
  refine wpAnyL_end (i := 10) (by kernel_rfl) rfl (by kernel_rfl) (by kernel_rfl) (fun KK hK => ?_)
  go_simp
  refine hK.out _ _ ?_
  clear hK KK
  go_wp2_with fail
  go_end0
  exact ⟨rfl, unhide HF⟩
theorem keepMoreQ {w : World} {bk m k n : Nat} {R L : Value} {p : Nat → Pg Dq} {X : List Dq} (h : KindAt zQ w bk m R p) (c0 : w.cell? ⟨bk, 0, none⟩ = some (.int .i64 (k : Int))) (hL : Mine zQ w bk m R p L n X) (hk : k < 900) (hm : m < 96) :
    Calls Tryz.prog 29 #[.pointer (some ⟨bk, 0, none⟩), L] w fun e w' => e = .returned (.tuple #[]) ∧ More zQ w w' bk m k R p L 0 := by
  obtain ⟨pa, pc, rfl, _⟩ := book_row h
  have hpb : ∀ q, (Value.slice pa m pc).ownBlock = some q → q ≠ bk := fun q hq e => h.rb (by rw [← e]; exact hq)
  have how := hL.own
  obtain ⟨pp, cc, rfl, hnil, _⟩ := row_slice how
  refine (keepOutQ bk k n cc pp X hk hL.len hL.le w m pc pa (pages p m) hm c0 h.c1 (h.fz 0) (h.fz 11) (own_lies kQ_ok hL.len how) (fun e => (hnil e).2) h.row hpb).mono ?_
  rintro e w' ⟨rfl, ho⟩
  exact ⟨rfl, more_keep h hL hk ho⟩
theorem writeMoreQ {w : World} {bk m k n : Nat} {R L : Value} {p : Nat → Pg Dq} {X : List Dq} (h : KindAt zQ w bk m R p) (c0 : w.cell? ⟨bk, 0, none⟩ = some (.int .i64 (k : Int))) (hL : Mine zQ w bk m R p L n X) (hk : k < 900) (hm : m < 96) :
    Calls Tryz.prog 30 #[.pointer (some ⟨bk, 0, none⟩), L] w fun e w' => e = .returned (.tuple #[]) ∧ More zQ w w' bk m k R p L 2 := by
  obtain ⟨pa, pc, rfl, _⟩ := book_row h
  have hpb : ∀ q, (Value.slice pa m pc).ownBlock = some q → q ≠ bk := fun q hq e => h.rb (by rw [← e]; exact hq)
  refine (writeOutQ bk k n L X hk hL.len hL.le w m pc pa (pages p m) hm c0 h.c1 (h.fz 0) (h.fz 11) h.tab h.b3 hL.own hL.l3 (fun e => (hL.apart bk e).1 rfl) h.row (fun q hq => ⟨hpb q hq, fun e => (hL.apart q e).2 (.inl hq)⟩)).mono ?_
  rintro e w' ⟨rfl, ho⟩
  exact ⟨rfl, more_write h hL hk ho⟩
set_option maxRecDepth 100000 in
set_option maxHeartbeats 2000000 in
theorem keepFullQ (bk m pc : Nat) (pa : Option Addr) (hm : 96 ≤ m) (w : World) (hk1 : w.cell? ⟨bk, 11, none⟩ = some (.slice pa m pc)) (L : Value) : Calls Tryz.prog 29 #[.pointer (some ⟨bk, 0, none⟩), L] w fun e w' => e = .returned (.tuple #[]) ∧ w' = w := by
  have hI1 : ¬ (m : Int) < 96 := by omega
  go_enter Tryz.func29, Tryz.ntmps29
  go_wp2_with fail
  go_end0
  exact ⟨rfl, rfl⟩
set_option maxRecDepth 100000 in
set_option maxHeartbeats 2000000 in
theorem writeFullQ (bk m pc : Nat) (pa : Option Addr) (hm : 96 ≤ m) (w : World) (hk1 : w.cell? ⟨bk, 11, none⟩ = some (.slice pa m pc)) (L : Value) : Calls Tryz.prog 30 #[.pointer (some ⟨bk, 0, none⟩), L] w fun e w' => e = .returned (.tuple #[]) ∧ w' = w := by
  have hI1 : ¬ (m : Int) < 96 := by omega
  go_enter Tryz.func30, Tryz.ntmps30
  go_wp2_with fail
  go_end0
  exact ⟨rfl, rfl⟩
end Go.Proofs.YtmgnlgobkkfjhaaGreatDoor.Kg
/- The keeper's days: Room (6), Kept (9). By tools/genkc.py. -/
namespace Go.Proofs.YtmgnlgobkkfjhaaGreatDoor.Kg
open Go Go.Shelf Go.ChangeShapes Go.WideShapes Go.ChangeAt Go.RowKit Go.Maps
set_option linter.unusedVariables false
set_option linter.unusedSimpArgs false
/-- what Room hands back -/
def RoomOutQ (X : List Dq) (n : Nat) (w : World) (e : Ending) (w' : World) : Prop :=
  ∃ g c, e = .returned (.slice (some ⟨g, 0, none⟩) (n + 64) c) ∧ w'.ownsRow w.heap.size 38 4 (.slice (some ⟨g, 0, none⟩) (n + 64) c) (n + 64) (kQ.flat (X ++ mks zQ 700000 64)) ∧ Below w.heap.size w w'
/-- the copy while marks are put behind it -/
structure RoomAtQ (X : List Dq) (n : Nat) (w : World) (j : Nat) (v : Value) (wr : World) : Prop where
  own : wr.ownsRow w.heap.size 38 4 v (n + j) (kQ.flat (X ++ mks zQ 700000 j))
  bel : Below w.heap.size w wr
theorem own_lit0Q (w : World) : (w.alloc (.cells #[] 38)).ownsRow w.heap.size 38 4 (.slice (some ⟨w.heap.size, 0, none⟩) 0 0) 0 (kQ.flat []) := by
  refine ⟨by simp [Kd.flat], .inr ⟨w.heap.size, 0, #[], rfl, Nat.le_refl _, ?_, Nat.le_refl _, Nat.zero_le _, by simp, by simp [Kd.flat]⟩⟩
  exact heap_new w _
set_option maxRecDepth 100000 in
set_option maxHeartbeats 4000000 in
theorem roomQ (X : List Dq) (pp : Option Addr) (n cc : Nat) (hX : X.length = n) (hcc : pp = none → cc = 0) (hn : (n + 64 + (n + 64) / 4 + 192) * 40 ≤ 281474976710656) (w : World) (hP : Pw w) (hL : Lies kQ w pp X) :
    Calls Tryz.prog 6 #[.slice pp n cc] w fun e w' => RoomOutQ X n w e w' := by
  have hnm : n + 64 ≤ maxLen := by unfold maxLen; omega
  have eby : kQ.by' = 40 := rfl
  have hb0 : (0 + n + (0 + n) / 4 + 192) * 40 ≤ 281474976710656 := Nat.le_trans (Nat.mul_le_mul_right _ (by omega)) hn
  have b0 : Below w.heap.size w (w.alloc (.cells #[] 38)) := bal (Below.refl _ w) _
  obtain ⟨p5, c5, w5, r5, o5, b5⟩ := run_appW (K := kQ) kQ_ok (L := []) (M := X) 22 (own_lit0Q w) (by simp) pp cc hcc (hL.below b0) (by rw [hX]; omega) (by rw [hX, eby]; exact hb0)
  rw [hX, Nat.zero_add] at r5 o5
  rw [List.nil_append] at o5
  have HS : Hid (RoomAtQ X n w 0 (.slice p5 n c5) w5) := ⟨by rw [show mks zQ 700000 0 = [] from rfl, List.append_nil]; exact o5, b0.trans b5⟩
  have HR5 := hide r5; have HPW := hide hP; have HN := hide hn; have HNM := hide hnm
  have hnn : n ≤ 9223372036854775000 := by omega
  clear r5 o5 b5 b0 hP hL hn hnm hb0 eby hcc hX
  go_enter Tryz.func6, Tryz.ntmps6
  go_wp2_with (at_builtin; refine wpList_append_run rfl _ _ 22 rfl _ _ _ _ rfl rfl (unhide HR5) ?_)
  go_loopw [3, 4] (fun v i wr => ∃ j : Nat, j ≤ 64 ∧ i = .int .i64 (j : Int) ∧ (∃ p' c', v = .slice p' (n + j) c') ∧ Hid (RoomAtQ X n w j v wr)) (fun _ i _ => 64 - (intOf i).toNat)
  case atStart => exact ⟨0, by omega, rfl, ⟨_, _, rfl⟩, unhide HS⟩
  case round =>
    obtain ⟨j, hj, rfl, ⟨p7, c7, rfl⟩, HA⟩ := hrel
    have hA := unhide HA
    by_cases hlt : j < 64
    · have hI : (j : Int) < 64 := by omega
      have hmk := hide (markQ 700000 j (by omega) (by omega) wr ((unhide HPW).below hA.bel))
      have HSTEP : Hid (∀ w2, Below wr.heap.size wr w2 → ∃ p' c' w', (Builtin.append_ #[22, 22] 22 #[.slice p7 (n + j) c7, .slice (some ⟨w2.heap.size, 0, none⟩) 1 1]).run Tryz.prog (w2.alloc (.cells #[.string (mkS 700000 j), .int .i64 (-(j : Int) - 1), .int .i64 0, .int .i64 0] 38)) = .ok (.slice p' (n + j + 1) c') w' ∧ RoomAtQ X n w (j + 1) (.slice p' (n + j + 1) c') w') := fun w2 hb => by
        have hba := bal hb (.cells #[.string (mkS 700000 j), .int .i64 (-(j : Int) - 1), .int .i64 0, .int .i64 0] 38)
        have hn := unhide HN
        have hnm := unhide HNM
        have eby : kQ.by' = 40 := rfl
        have hbj : (n + j + 1 + (n + j + 1) / 4 + 192) * 40 ≤ 281474976710656 := Nat.le_trans (Nat.mul_le_mul_right _ (by omega)) hn
        obtain ⟨p', c', w', r, o, b⟩ := run_appW (K := kQ) kQ_ok 22 (W := w2.alloc (.cells #[.string (mkS 700000 j), .int .i64 (-(j : Int) - 1), .int .i64 0, .int .i64 0] 38)) (M := [mkQ 700000 j]) (row_far hA.own fun q hq => hba.block q (row_lt hA.own hq).2) (Nat.le_trans hA.bel.size hba.size) (some ⟨w2.heap.size, 0, none⟩) 1 (fun h => by cases h) (one_lies w2 (mkQ 700000 j) 38 _ rfl) (by rw [List.length_singleton]; omega) (by rw [List.length_singleton, eby]; exact hbj)
        simp only [List.length_singleton] at r o
        refine ⟨p', c', w', r, ⟨?_, (hA.bel.trans (hba.mono hA.bel.size)).trans b⟩⟩
        rw [mks_succ, ← List.append_assoc]
        exact o
      clear hA
      unfold cvQ at hmk
      simp only [mkQ] at hmk
      go_wp2_with fail
      refine (unhide hmk).mono ?_
      rintro e w2 ⟨rfl, hb⟩
      obtain ⟨p', c', w', r, hrel⟩ := unhide HSTEP w2 hb
      have HREL := hide hrel
      clear hb hrel HSTEP
      go_wp2_with (at_builtin; refine wpList_append_run rfl _ _ 22 rfl _ _ _ _ rfl rfl r ?_)
      exact ⟨⟨j + 1, by omega, by go_num, ⟨_, _, rfl⟩, unhide HREL⟩, by simp [intOf]; omega⟩
    · have hj64 : j = 64 := by omega
      subst hj64
      have HF : Hid (∀ e, e = Ending.returned (.slice p7 (n + 64) c7) → RoomOutQ X n w e wr) := fun e he => by
        obtain ⟨g, c, hv⟩ := own_open hA.own (by omega)
        injection hv with h1 _ h2
        subst h1 h2
        exact ⟨g, c7, he, hA.own, hA.bel⟩
      clear hA
      go_wp2_with fail
      go_ret
      exact unhide HF _ rfl
attribute [local go_sem ↓] ldKQ_is
set_option maxRecDepth 100000 in
set_option maxHeartbeats 8000000 in
theorem keptQ (X : List Dq) (pp pg : Option Addr) (n cc c : Nat) (hX : X.length = n) (hn : n ≤ 4611686018427387904) (w : World) (hP : Pw w) (hL : Lies kQ w pp X) (hG : Lies kQ w pg (X ++ mks zQ 700000 64)) :
    Calls Tryz.prog 9 #[.slice pg (n + 64) c, .slice pp n cc] w fun e w' => e = .returned (.bool true) ∧ Below w.heap.size w w' := by
  have HP := hide hP; have HL := hide hL; have HG := hide hG; have HX := hide hX
  clear hP hL hG hX
  go_enter Tryz.func9, Tryz.ntmps9
  go_wp2_with fail
  go_loopw [5] (fun i wr => ∃ (k : Nat) (K : Int), k ≤ n + 64 ∧ i = .int .i64 K ∧ K = (k : Int) ∧ Hid (Below w.heap.size w wr)) (fun i _ => ((n : Int) + 64 - intOf i).toNat)
  case atStart => exact ⟨0, 0, by omega, rfl, rfl, Below.refl _ _⟩
  case round =>
    obtain ⟨k, K, hk, rfl, hK, HB⟩ := hrel
    have hb := unhide HB
    have HK := hide hK
    have hK0 : 0 ≤ K := by omega
    have hKt : K.toNat = k := by omega
    by_cases hlt : k < n + 64
    · have hI : K < (n : Int) + 64 := by omega
      obtain ⟨b1, o1, e1, r1⟩ := ldBQ ((unhide HG).below hb) (k := k) (by rw [List.length_append, unhide HX, mks_len]; exact hlt)
      subst e1
      by_cases hkn : k < n
      · obtain ⟨b2, o2, e2, r2⟩ := ldBQ ((unhide HL).below hb) (k := k) (by rw [unhide HX]; exact hkn)
        subst e2
        rw [List.getElem_append_left (by rw [unhide HX]; exact hkn)] at r1
        obtain ⟨vx, hvx⟩ : ∃ vx, vx = cvQ (X[k]'(by rw [unhide HX]; exact hkn)) := ⟨_, rfl⟩
        rw [← hvx] at r1 r2
        have x0 : ∀ P : Bel wr, (ldKQ (.pointer (some ⟨b1, o1 + k * 4, none⟩))).run Tryz.prog P.W = .ok vx P.W := fun P => r1 P.W P.h
        have y0 : ∀ P : Bel wr, (ldKQ (.pointer (some ⟨b2, o2 + k * 4, none⟩))).run Tryz.prog P.W = .ok vx P.W := fun P => r2 P.W P.h
        have HSM : Hid (∀ P : Bel wr, Calls Tryz.prog 21 #[vx, vx] P.W fun e w'' => e = .returned (.bool true) ∧ ∃ q : Bel wr, w'' = q.W) := fun P => by
          rw [hvx]
          exact (eqkQ _ P.W).mono (fun e w' ⟨h1, h2⟩ => ⟨h1, ⟨w', P.h.trans (h2.mono P.h.size)⟩, rfl⟩)
        subst hK
        have hI1 : (k : Int) < (n : Int) := by omega
        have hI2 : ¬ (n : Int) ≤ (k : Int) := by omega
        have hN2 : ¬ n ≤ k := by omega
        have hD2 : decide (n ≤ k) = false := decide_eq_false hN2
        clear r1 r2 hvx hb hk HK hKt
        go_wp2_with fail
        refine wp_region_quiet_below (by kernel_rfl) (by kernel_rfl) ?_
        repeat (go_big_quiet_step (first | (go_at_call 21; refine unhide HSM _)))
        refine wpQuiet_nil ?_
        rintro _ ⟨P, rfl⟩
        clear x0 y0
        go_wp2_with fail
        exact ⟨⟨k + 1, (k : Int) + 1, by omega, by go_num, by omega, (unhide HB).trans (P.h.mono (unhide HB).size)⟩, by simp [intOf]; omega⟩
      · obtain ⟨j, hjk⟩ : ∃ j, k = n + j := ⟨k - n, by omega⟩
        have ej : ∀ h, (X ++ mks zQ 700000 64)[k]'h = mkQ 700000 j := fun h => by
          have e9 : (X ++ mks zQ 700000 64)[k]? = some (mkQ 700000 j) := by
            rw [List.getElem?_append_right (by rw [unhide HX]; omega), unhide HX, show k - n = j by omega, List.getElem?_eq_getElem (by rw [mks_len]; omega), mks_get]
            rfl
          rw [List.getElem?_eq_getElem h] at e9
          exact Option.some.inj e9
        rw [ej] at r1
        obtain ⟨vx, hvx⟩ : ∃ vx, vx = cvQ (mkQ 700000 j) := ⟨_, rfl⟩
        rw [← hvx] at r1
        have x0 : ∀ P : Bel wr, (ldKQ (.pointer (some ⟨b1, o1 + k * 4, none⟩))).run Tryz.prog P.W = .ok vx P.W := fun P => r1 P.W P.h
        have hI1 : ¬ K < (n : Int) := by omega
        have hI2 : (n : Int) ≤ K := by omega
        have hI3 : K - (n : Int) = (j : Int) := by omega
        have hwj : IntKind.i64.wrap (j : Int) = (j : Int) := by rw [IntKind.wrap_i64]; omega
        have hwK : IntKind.i64.wrap (K - (n : Int)) = (j : Int) := by rw [hI3, hwj]
        have hD1 : decide (K < (n : Int)) = false := decide_eq_false hI1
        have hD2 : decide ((n : Int) ≤ K) = true := decide_eq_true hI2
        have HMK : Hid (∀ P : Bel wr, Calls Tryz.prog 15 #[.int .i64 700000, .int .i64 (j : Int)] P.W fun e w'' => e = .returned vx ∧ ∃ q : Bel wr, w'' = q.W) := fun P => by
          rw [hvx]
          exact (markQ 700000 j (by omega) (by omega) P.W (((unhide HP).below hb).below P.h)).mono (fun e w' ⟨h1, h2⟩ => ⟨h1, ⟨w', P.h.trans (h2.mono P.h.size)⟩, rfl⟩)
        have HSM : Hid (∀ P : Bel wr, Calls Tryz.prog 21 #[vx, vx] P.W fun e w'' => e = .returned (.bool true) ∧ ∃ q : Bel wr, w'' = q.W) := fun P => by
          rw [hvx]
          exact (eqkQ _ P.W).mono (fun e w' ⟨h1, h2⟩ => ⟨h1, ⟨w', P.h.trans (h2.mono P.h.size)⟩, rfl⟩)
        clear r1 hvx hb hK hlt hk hkn hjk ej
        go_wp2_with fail
        refine wp_region_quiet_below (by kernel_rfl) (by kernel_rfl) ?_
        repeat (go_big_quiet_step (first | (go_at_call 21; refine unhide HSM _) | (go_at_call 15; refine unhide HMK _)))
        refine wpQuiet_nil ?_
        rintro _ ⟨P, rfl⟩
        clear x0
        go_wp2_with fail
        exact ⟨⟨k + 1, K + 1, by have := unhide HK; omega, by go_num, by have := unhide HK; omega, (unhide HB).trans (P.h.mono (unhide HB).size)⟩, by have := unhide HK; simp [intOf]; omega⟩
    · have hI : ¬ K < (n : Int) + 64 := by omega
      clear hb hK
      go_wp2_with fail
      go_ret
      exact ⟨rfl, unhide HB⟩
end Go.Proofs.YtmgnlgobkkfjhaaGreatDoor.Kg
