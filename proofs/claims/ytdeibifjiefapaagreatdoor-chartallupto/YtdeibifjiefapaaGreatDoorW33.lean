import Derived.Test.YtdeibifjiefapaaGreatDoorW32
/- The keeper's accounts: Keep (31), Write (33). By tools/genkc.py. -/
namespace Go.Proofs.YtdeibifjiefapaaGreatDoor.Kg
open Go Go.Shelf Go.ChangeShapes Go.WideShapes Go.ChangeAt Go.RowKit Go.Maps
set_option linter.unusedVariables false
set_option linter.unusedSimpArgs false
theorem own_litD (w : World) : (w.drew.alloc (.cells #[] 65)).ownsRow w.heap.size 65 4 (.slice (some ⟨w.heap.size, 0, none⟩) 0 0) 0 (kD.flat []) := by
  refine ⟨by simp [Kd.flat], .inr ⟨w.heap.size, 0, #[], rfl, Nat.le_refl _, ?_, Nat.le_refl _, Nat.zero_le _, by simp, by simp [Kd.flat]⟩⟩
  exact heap_new w.drew _
set_option maxRecDepth 100000 in
set_option maxHeartbeats 8000000 in
theorem keepOutD (bk k n cc : Nat) (pp : Option Addr) (X : List Am) (hk : k < 900) (hX : X.length = n) (hn : n ≤ 900000) (w : World) (m pc : Nat) (pa : Option Addr) (xs : List Value) (hm : m < 96) (hk0 : w.cell? ⟨bk, 0, none⟩ = some (.int .i64 (k : Int))) (hk1 : w.cell? ⟨bk, 8, none⟩ = some (.slice pa m pc)) (hf0 : w.frozen? ⟨bk, 0, none⟩ = false) (hf1 : w.frozen? ⟨bk, 8, none⟩ = false)
    (hL : Lies kD w pp X) (hcc : pp = none → cc = 0) (hp : w.ownsRow 0 114 5 (.slice pa m pc) m xs) (hpb : ∀ q, (Value.slice pa m pc).ownBlock = some q → q ≠ bk) :
    Calls Tryz.prog 31 #[.pointer (some ⟨bk, 0, none⟩), .slice pp n cc] w fun e w' => e = .returned (.tuple #[]) ∧ KeepOut zD w bk k m (.slice pp n cc) n X (.slice pa m pc) xs w' := by
  have hI1 : (m : Int) < 96 := by omega
  have hbk : bk < w.heap.size := World.block_lt_of_cell? w ⟨bk, 8, none⟩ hk1
  have b0 : Below w.heap.size w (w.drew.alloc (.cells #[] 65)) := bal (below_drewN (Below.refl _ w) 1) _
  obtain ⟨p5, c5, w5, r5, o5, b5, _⟩ := run_app (K := kD) kD_ok (L := []) (M := X) 22 (own_litD w) (by simp) pp cc hcc (hL.below b0) (by omega)
  rw [hX, Nat.zero_add] at r5 o5
  rw [List.nil_append] at o5
  have hb5 : Below w.heap.size w w5 := b0.trans b5
  have k1a : (w.drew.alloc (.cells #[] 65)).cell? ⟨bk, 8, none⟩ = some (.slice pa m pc) := keep1 b0 hbk hk1
  have t0 := keep1 hb5 hbk hk0
  have t1 := keep1 hb5 hbk hk1
  have u0 := keepF hb5 hbk hf0
  have u1 := keepF hb5 hbk hf1
  have hbk5 : bk < w5.heap.size := Nat.lt_of_lt_of_le hbk hb5.size
  have hid := hide (id_any bk k (by omega) w5 t0 u0)
  have t1c : (w5.setCell ⟨bk, 0, none⟩ (.int .i64 ((k : Int) + 1))).cell? ⟨bk, 8, none⟩ = some (.slice pa m pc) := (World.cell?_setCell_other _ _ _ _ (by intro h'; injection h' with _ h' _; omega)).trans t1
  have t1b : ∀ o, ((w5.setCell ⟨bk, 0, none⟩ (.int .i64 ((k : Int) + 1))).alloc o).cell? ⟨bk, 8, none⟩ = some (.slice pa m pc) := fun o => (World.cell?_alloc_lt _ _ _ (by simpa using hbk5)).trans t1c
  obtain ⟨O6, hO6⟩ : ∃ O6 : Obj, O6 = .cells #[.slice pp n cc, .slice none 0 0, .slice p5 n c5, .int .i64 ((k : Int) + 1), .bool false] 114 := ⟨_, rfl⟩
  have hrow6 : ((w5.setCell ⟨bk, 0, none⟩ (.int .i64 ((k : Int) + 1))).alloc O6).ownsRow 0 114 5 (.slice pa m pc) m xs := row_far hp fun q hq => by
    have hq1 := (row_lt hp hq).2
    rw [Below.heap_alloc _ _ _ (by simpa using Nat.lt_of_lt_of_le hq1 hb5.size), heap_set (hpb q hq)]
    exact hb5.block q hq1
  obtain ⟨g6, c6, w6, r6, o6, gr6, at6⟩ := run_page zD_ok 44 hrow6 ⟨w5.heap.size, 0, none⟩ 1 [.slice pp n cc, .slice none 0 0, .slice p5 n c5, .int .i64 ((k : Int) + 1), .bool false] rfl (by rw [hO6]; exact five_new (by simp) _ _ _ _ _ _) one5 (by omega)
  have hbk6 : bk < ((w5.setCell ⟨bk, 0, none⟩ (.int .i64 ((k : Int) + 1))).alloc O6).heap.size := by simp; omega
  have t6 : w6.cell? ⟨bk, 8, none⟩ = some (.slice pa m pc) := (gr6.cell_far ⟨bk, 8, none⟩ hbk6 (fun e => hpb bk e.symm rfl)).trans (t1b O6)
  have u6 : w6.frozen? ⟨bk, 8, none⟩ = false := by
    have h := (gr6.frozen_far ⟨bk, 8, none⟩ hbk6 (fun e => hpb bk e.symm rfl)).trans (World.frozen?_alloc_past (w := w5.setCell ⟨bk, 0, none⟩ (.int .i64 ((k : Int) + 1))) O6 bk 8 (by simpa using hbk5))
    rw [h]
    simpa using u1
  have HF : Hid (KeepOut zD w bk k m (.slice pp n cc) n X (.slice pa m pc) xs (w6.setCell ⟨bk, 8, none⟩ (.slice (some ⟨g6, 0, none⟩) (m + 1) c6))) :=
    keep_out zD_ok hbk (fun q hq => ⟨hpb q hq, (row_lt hp hq).2⟩) hb5 o5 t0 t6 gr6 o6 at6
  have HR5 := hide r5; have HR6 := hide r6
  clear hp hpb hL hcc b0 o5 b5 hb5 t0 u0 u1 hrow6 o6 gr6 at6 hbk6 r5 r6 hk0 hf0
  subst hO6
  go_enter Tryz.func31, Tryz.ntmps31
  go_wp2_with fail
  refine wp_region_last (n := 16) (S := fun W => W.cell? ⟨bk, 8, none⟩ = some (.slice pa m pc)) (by kernel_rfl) (by first | (exact hk1)) (fun hHeld => ?_)
  refine tkW 0 ?_
  refine tkW 1 ?_
  refine tkW 2 ?_
  refine tkW 3 ?_
  refine tkS 4 ?_
  refine tkW 5 ?_
  refine tkW 7 ?_
  refine tkW 9 ?_
  refine wpAnyL_one (i := 6) (by kernel_rfl) rfl (fun KK hK => ?_)
  go_simp
  refine hK.out _ _ (by first | (exact k1a)) (fun hHeld => ?_)
  clear hK KK
  refine wpAnyL_one (i := 8) (by kernel_rfl) rfl (fun KK hK => ?_)
  refine step_append_run _ (by rfl) _ _ 22 (by rfl) _ _ _ _ (by rfl) (by rfl) (unhide HR5) ?_
  refine hK.out _ _ (by first | (exact t1)) (fun hHeld => ?_)
  clear hK KK
  refine wpAnyL_one (i := 10) (by kernel_rfl) rfl (fun KK hK => ?_)
  go_simp
  go_wp2_with (first | (go_at_call 95; refine (unhide hid).mono ?_; rintro e w2 ⟨rfl, hw⟩; rw [hw]; clear hw w2))
  refine hK.out _ _ (by first | (exact t1c)) (fun hHeld => ?_)
  clear hK KK
  refine tkW 11 ?_
  refine wpAnyL_one (i := 12) (by kernel_rfl) rfl (fun KK hK => ?_)
  go_simp
  refine hK.out _ _ (by first | (exact t1b _)) (fun hHeld => ?_)
  clear hK KK
  refine wpAnyL_one (i := 13) (by kernel_rfl) rfl (fun KK hK => ?_)
  refine step_append_run _ (by rfl) _ _ 44 (by rfl) _ _ _ _ (by rfl) (by rfl) (unhide HR6) ?_
  refine hK.out _ _ (by first | (exact t6)) (fun hHeld => ?_)
  clear hK KK
  refine tkW 14 ?_
  refine tkW 15 ?_
  refine wpAnyL_end (i := 16) (by kernel_rfl) rfl (by kernel_rfl) (by kernel_rfl) (fun KK hK => ?_)
  go_simp
  refine hK.out _ _ ?_
  clear hK KK
  go_wp2_with fail
  go_end0
  exact ⟨rfl, unhide HF⟩
set_option maxRecDepth 100000 in
set_option maxHeartbeats 8000000 in
theorem writeOutD (bk k n : Nat) (L : Value) (X : List Am) (hk : k < 900) (hX : X.length = n) (hn : n ≤ 900000) (w : World) (m pc : Nat) (pa : Option Addr) (xs : List Value) (hm : m < 96) (hk0 : w.cell? ⟨bk, 0, none⟩ = some (.int .i64 (k : Int))) (hk1 : w.cell? ⟨bk, 8, none⟩ = some (.slice pa m pc)) (hf0 : w.frozen? ⟨bk, 0, none⟩ = false) (hf1 : w.frozen? ⟨bk, 8, none⟩ = false)
    (hP : Pw w) (hb1 : bk ≠ 1) (hL : w.ownsRow 0 65 4 L n (kD.flat X)) (hL1 : L.ownBlock ≠ some 1) (hLb : L.ownBlock ≠ some bk) (hp : w.ownsRow 0 114 5 (.slice pa m pc) m xs) (hpb : ∀ q, (Value.slice pa m pc).ownBlock = some q → q ≠ bk ∧ L.ownBlock ≠ some q) :
    Calls Tryz.prog 33 #[.pointer (some ⟨bk, 0, none⟩), L] w fun e w' => e = .returned (.tuple #[]) ∧ WriteOut zD w bk k m L n (.slice pa m pc) xs w' := by
  have hI1 : (m : Int) < 96 := by omega
  have hbk : bk < w.heap.size := World.block_lt_of_cell? w ⟨bk, 8, none⟩ hk1
  have hid := hide (id_any bk k (by omega) w hk0 hf0)
  have hLlt : ∀ q, L.ownBlock = some q → q < w.heap.size := fun q hq => (row_lt hL hq).2
  obtain ⟨pp, cc, eL, _⟩ := row_slice hL
  obtain ⟨W1, hW1⟩ : ∃ W1, W1 = (w.setCell ⟨bk, 0, none⟩ (.int .i64 ((k : Int) + 1))).alloc (.cells #[.slice pp n cc, .slice none 0 0, .slice none 0 0, .int .i64 ((k : Int) + 1), .bool false] 114) := ⟨_, rfl⟩
  have hs1 : (w.setCell ⟨bk, 0, none⟩ (.int .i64 ((k : Int) + 1))).heap.size = w.heap.size := by simp
  have hz1 : W1.heap.size = w.heap.size + 1 := by rw [hW1]; simp
  have hpc : ∀ j, W1.cell? ⟨w.heap.size, j, none⟩ = (#[.slice pp n cc, .slice none 0 0, .slice none 0 0, .int .i64 ((k : Int) + 1), .bool false] : Array Value)[j]? := by
    intro j
    rw [hW1, ← hs1, World.cell?_alloc_mark]
  have hpf : ∀ j, W1.frozen? ⟨w.heap.size, j, none⟩ = false := by
    intro j
    rw [hW1]
    exact World.frozen?_alloc_at _ _ _ _ hs1.symm
  have hblk : ∀ q, q < w.heap.size → q ≠ bk → W1.heap[q]? = w.heap[q]? := by
    intro q hq h1
    rw [hW1, Below.heap_alloc _ _ _ (by simpa using hq), heap_set h1]
  have hLa : ∀ q, L.ownBlock = some q → q ≠ bk := fun q hq e => hLb (by rw [← e]; exact hq)
  have hL1' : W1.ownsRow 0 65 4 L n (kD.flat X) := row_far hL (fun q hq => hblk q (hLlt q hq) (hLa q hq))
  have PW1 := hP.keep (hblk 1 hP.lt (fun e => hb1 e.symm))
  have h3w : w.heap.size ≠ 1 := by have := hP.lt; omega
  have hLw : L.ownBlock ≠ some w.heap.size := fun e => by have := hLlt _ e; omega
  have hfill := hide (fillD w.heap.size 0 L n (k + 1) X W1 hn (by omega) hX hL1' hLw hL1 ((hpc 0).trans (by rw [eL]; rfl)) ((hpc 3).trans (by simp)) ⟨_, hpc 4⟩ (hpf 4) PW1)
  have HBK : Hid (W1.cell? ⟨bk, 0, none⟩ = some (.int .i64 ((k : Int) + 1)) ∧ W1.cell? ⟨bk, 8, none⟩ = some (.slice pa m pc) ∧ (∀ i, i ≠ 0 → W1.cell? ⟨bk, i, none⟩ = w.cell? ⟨bk, i, none⟩) ∧ (∀ i, W1.frozen? ⟨bk, i, none⟩ = w.frozen? ⟨bk, i, none⟩) ∧ W1.os = w.os ∧ W1.tape = w.tape ∧ W1.output = w.output) := by
    rw [hW1]
    have hot : ∀ i, i ≠ 0 → ((w.setCell ⟨bk, 0, none⟩ (.int .i64 ((k : Int) + 1))).alloc (.cells #[.slice pp n cc, .slice none 0 0, .slice none 0 0, .int .i64 ((k : Int) + 1), .bool false] 114)).cell? ⟨bk, i, none⟩ = w.cell? ⟨bk, i, none⟩ := fun i hi => (World.cell?_alloc_lt _ _ _ (by simpa using hbk)).trans (World.cell?_setCell_other _ _ _ _ (by intro h'; injection h' with _ h' _; omega))
    exact ⟨(World.cell?_alloc_lt _ _ _ (by simpa using hbk)).trans (World.cell?_setCell_same _ _ _ hk0), (hot 8 (by omega)).trans hk1, hot, fun i => (World.frozen?_alloc_past _ _ _ (by simpa using hbk)).trans (by simp), rfl, rfl, rfl⟩
  have HP := hide hp; have HPB := hide hpb; have HPC := hide hpc; have HPF := hide hpf; have HBL := hide hblk; have HW1 := hide hW1; have HLLT := hide hLlt; have HLA := hide hLa; have HF1 := hide hf1; have HPW1 := hide PW1; have HLT := hide hP.lt; have HLL := hide hL1; have HLW := hide hLw
  subst eL
  clear hp hpb hpc hpf hblk hL1' hL hLlt hLa hW1 hf1 PW1 hP hL1 hLb hLw hf0 hk0
  go_enter Tryz.func33, Tryz.ntmps33
  go_wp2_with fail
  refine (unhide hid).mono ?_
  rintro e w2 ⟨rfl, hw⟩
  rw [hw]
  clear hw hk1
  go_wp2_with fail
  rw [← unhide HW1]
  refine (unhide hfill).mono ?_
  rintro e w2 ⟨rfl, w1, hF, hw2⟩
  have hgr := hF.gr
  have hne : some w.heap.size ≠ (Value.slice pp n cc).ownBlock := fun e => unhide HLW e.symm
  have hz2 : w.heap.size + 1 ≤ w2.heap.size := by rw [hw2]; have := hgr.size; simp; omega
  have hpg2 : ∀ j, j ≠ 4 → w2.cell? ⟨w.heap.size, j, none⟩ = W1.cell? ⟨w.heap.size, j, none⟩ := fun j hj => by
    rw [hw2, World.cell?_setCell_other _ _ _ _ (by intro h'; injection h' with _ h' _; omega)]
    exact hgr.cell_far ⟨w.heap.size, j, none⟩ (by show w.heap.size < _; omega) hne
  have hpf2 : ∀ j, w2.frozen? ⟨w.heap.size, j, none⟩ = false := fun j => by
    rw [hw2]
    have h := hgr.frozen_far ⟨w.heap.size, j, none⟩ (by show w.heap.size < _; omega) hne
    simpa using h.trans (unhide HPF j)
  have hp42 : w2.cell? ⟨w.heap.size, 4, none⟩ = some (.bool true) := by
    rw [hw2]
    exact World.cell?_setCell_same _ _ _ ((hgr.cell_far ⟨w.heap.size, 4, none⟩ (by show w.heap.size < _; omega) hne).trans (unhide HPC 4))
  have hbl2 : ∀ q, q ≠ w.heap.size → some q ≠ (Value.slice pp n cc).ownBlock → q < W1.heap.size → w2.heap[q]? = W1.heap[q]? := fun q h1 h2 h3 => by
    rw [hw2, heap_set h1]
    exact hgr.block q h3 h2
  have hown2 : w2.ownsRow 0 65 4 (.slice pp n cc) n (kD.flat (mks zD (k + 1) n)) := by
    rw [hw2]
    exact row_far (hF.full hX) (fun q hq => heap_set (fun e => unhide HLW (by rw [← e]; exact hq)))
  have hPw2 : Pw w2 := (unhide HPW1).keep (hbl2 1 (fun e => h3w e.symm) (fun e => unhide HLL e.symm) (by have := unhide HLT; omega))
  have hgrow := hide (growD w.heap.size 0 (.slice pp n cc) n (k + 1) w2 hn (by omega) hown2 (unhide HLW) (unhide HLL) h3w ((hpg2 0 (by omega)).trans (unhide HPC 0)) ⟨_, (hpg2 1 (by omega)).trans (unhide HPC 1)⟩ (hpf2 1) (((hpg2 3 (by omega)).trans (unhide HPC 3)).trans (by simp)) hPw2)
  have OS2 : Hid (w2.os = W1.os ∧ w2.tape = W1.tape ∧ w2.output = W1.output) := by rw [hw2]; exact ⟨hgr.os, hgr.tape, hgr.output⟩
  have HH := hide (And.intro hpg2 (And.intro hpf2 (And.intro hp42 hbl2)))
  clear hpg2 hpf2 hp42 hbl2 hown2 hgr hF hw2 hPw2 hne
  go_wp2_with fail
  refine (unhide hgrow).mono ?_
  rintro e w3 ⟨rfl, v, hG⟩
  obtain ⟨hpg2, hpf2, hp42, hbl2⟩ := unhide HH
  have c0 : w3.cell? ⟨w.heap.size, 0, none⟩ = some (.slice pp n cc) := ((hG.cell (by omega)).trans (hpg2 0 (by omega))).trans (unhide HPC 0)
  have c1 : w3.cell? ⟨w.heap.size, 1, none⟩ = some v := hG.g ((hpg2 1 (by omega)).trans (unhide HPC 1))
  have c2 : w3.cell? ⟨w.heap.size, 2, none⟩ = some (.slice none 0 0) := ((hG.cell (by omega)).trans (hpg2 2 (by omega))).trans (unhide HPC 2)
  have c3 : w3.cell? ⟨w.heap.size, 3, none⟩ = some (.int .i64 ((k : Int) + 1)) := ((hG.cell (by omega)).trans (hpg2 3 (by omega))).trans (unhide HPC 3)
  have c4 : w3.cell? ⟨w.heap.size, 4, none⟩ = some (.bool true) := (hG.cell (by omega)).trans hp42
  obtain ⟨g3, c3', e3⟩ := own_open hG.own (by omega)
  subst e3
  have b3 : w3.heap[bk]? = W1.heap[bk]? := (hG.far bk (by omega) (by omega) (fun e => unhide HLA bk e rfl)).trans (hbl2 bk (by omega) (fun e => unhide HLA bk e.symm rfl) (by omega))
  obtain ⟨wb0, wb1, wbi, wbf, wbo, wbt, wbu⟩ := unhide HBK
  obtain ⟨o1, o2, o3⟩ := unhide OS2
  have t1 : w3.cell? ⟨bk, 8, none⟩ = some (.slice pa m pc) := (World.cell?_of_block b3).trans wb1
  have u1 : w3.frozen? ⟨bk, 8, none⟩ = false := ((World.frozen?_of_block b3).trans (wbf 8)).trans (unhide HF1)
  have r3 : ∀ q, q < w.heap.size → q ≠ bk → (Value.slice pp n cc).ownBlock ≠ some q → w3.heap[q]? = w.heap[q]? := fun q h1 h2 h3 => ((hG.far q (by omega) (by omega) h3).trans (hbl2 q (by omega) (fun e => h3 e.symm) (by omega))).trans (unhide HBL q h1 h2)
  have hz3 : w.heap.size + 1 ≤ w3.heap.size := Nat.le_trans hz2 hG.size
  have hb3 : bk < w3.heap.size := by omega
  obtain ⟨O6, hO6⟩ : ∃ O6 : Obj, O6 = .cells #[.slice pp n cc, .slice (some ⟨g3, 0, none⟩) (n + 64) c3', .slice none 0 0, .int .i64 ((k : Int) + 1), .bool true] 114 := ⟨_, rfl⟩
  have hrow6 : (w3.drew.alloc O6).ownsRow 0 114 5 (.slice pa m pc) m xs := row_far (unhide HP) fun q hq => by
    have hq1 := (row_lt (unhide HP) hq).2
    exact (Below.heap_alloc w3.drew _ _ (by show q < w3.heap.size; omega)).trans (r3 q hq1 (unhide HPB q hq).1 (unhide HPB q hq).2)
  obtain ⟨g6, c6, w6, r6, o6, gr6, at6⟩ := run_page zD_ok 44 hrow6 ⟨w3.heap.size, 0, none⟩ 1 [.slice pp n cc, .slice (some ⟨g3, 0, none⟩) (n + 64) c3', .slice none 0 0, .int .i64 ((k : Int) + 1), .bool true] rfl (by rw [hO6]; exact five_new rfl _ _ _ _ _ _) one5 (by omega)
  have hbk6 : bk < (w3.drew.alloc O6).heap.size := by simp; omega
  have hnb : some bk ≠ (Value.slice pa m pc).ownBlock := fun e => (unhide HPB bk e.symm).1 rfl
  have t6 : w6.cell? ⟨bk, 8, none⟩ = some (.slice pa m pc) := (gr6.cell_far ⟨bk, 8, none⟩ hbk6 hnb).trans ((World.cell?_alloc_lt w3.drew _ _ hb3).trans t1)
  have u6 : w6.frozen? ⟨bk, 8, none⟩ = false := (gr6.frozen_far ⟨bk, 8, none⟩ hbk6 hnb).trans ((World.frozen?_alloc_past (w := w3.drew) O6 bk 8 hb3).trans u1)
  have HF : Hid (WriteOut zD w bk k m (.slice pp n cc) n (.slice pa m pc) xs (w6.setCell ⟨bk, 8, none⟩ (.slice (some ⟨g6, 0, none⟩) (m + 1) c6))) :=
    write_out (w3 := w3) (o := O6) hbk (fun q hq => ⟨unhide HLA q hq, unhide HLLT q hq⟩) (fun q hq => ⟨unhide HPB q hq, (row_lt (unhide HP) hq).2⟩) ((World.cell?_of_block b3).trans wb0) (fun i hi hi4 => (World.cell?_of_block b3).trans (wbi i hi)) (fun i => (World.frozen?_of_block b3).trans (wbf i)) (by decide) r3 hz3 hG.own hG.lst (hG.at'.imp id (fun h q hq => by have := h q hq; omega)) ((hG.os.trans o1).trans wbo) ((hG.tape.trans o2).trans wbt) ((hG.output.trans o3).trans wbu) t6 gr6 o6 at6
  have s1 : (w3.drew.alloc O6).cell? ⟨bk, 8, none⟩ = some (.slice pa m pc) := (World.cell?_alloc_lt w3.drew _ _ hb3).trans t1
  have sp : ∀ i u, w3.cell? ⟨w.heap.size, i, none⟩ = some u → (w3.drew.alloc O6).cell? ⟨w.heap.size, i, none⟩ = some u := fun i u h => (World.cell?_alloc_lt w3.drew _ _ (by show w.heap.size < w3.heap.size; omega)).trans h
  have s6 : ∀ i u, w3.cell? ⟨w.heap.size, i, none⟩ = some u → w6.cell? ⟨w.heap.size, i, none⟩ = some u := fun i u h => (gr6.cell_far ⟨w.heap.size, i, none⟩ (by simp; omega) (fun e => absurd (row_lt (unhide HP) (q := w.heap.size) e.symm).2 (Nat.lt_irrefl _))).trans (sp i u h)
  have HR6 := hide r6; have SP := hide sp; have S6 := hide s6
  clear hpg2 hpf2 hp42 hbl2 hG b3 wb0 wb1 wbi wbf wbo wbt wbu o1 o2 o3 u1 r3 hrow6 o6 gr6 at6 hbk6 hnb r6 sp s6
  subst hO6
  go_wp2_with fail
  refine wp_region_last (n := 10) (S := fun W => W.cell? ⟨bk, 8, none⟩ = some (.slice pa m pc) ∧ W.cell? ⟨w.heap.size, 0, none⟩ = some (.slice pp n cc) ∧ W.cell? ⟨w.heap.size, 1, none⟩ = some (.slice (some ⟨g3, 0, none⟩) (n + 64) c3') ∧ W.cell? ⟨w.heap.size, 2, none⟩ = some (.slice none 0 0) ∧ W.cell? ⟨w.heap.size, 3, none⟩ = some (.int .i64 ((k : Int) + 1)) ∧ W.cell? ⟨w.heap.size, 4, none⟩ = some (.bool true)) (by kernel_rfl) (by first | (exact ⟨t1, c0, c1, c2, c3, c4⟩)) (fun hHeld => ?_)
  refine tkW 0 ?_
  refine tkW 1 ?_
  refine tkW 2 ?_
  refine tkW 3 ?_
  refine tkS 4 ?_
  refine tkS 5 ?_
  refine wpAnyL_one (i := 6) (by kernel_rfl) rfl (fun KK hK => ?_)
  go_simp
  refine hK.out _ _ (by first | (exact ⟨s1, unhide SP _ _ c0, unhide SP _ _ c1, unhide SP _ _ c2, unhide SP _ _ c3, unhide SP _ _ c4⟩)) (fun hHeld => ?_)
  clear hK KK
  refine wpAnyL_one (i := 7) (by kernel_rfl) rfl (fun KK hK => ?_)
  refine step_append_run _ (by rfl) _ _ 44 (by rfl) _ _ _ _ (by rfl) (by rfl) (unhide HR6) ?_
  refine hK.out _ _ (by first | (exact ⟨t6, unhide S6 _ _ c0, unhide S6 _ _ c1, unhide S6 _ _ c2, unhide S6 _ _ c3, unhide S6 _ _ c4⟩)) (fun hHeld => ?_)
  clear hK KK
  refine tkW 8 ?_
  refine tkW 9 ?_
  refine wpAnyL_end (i := 10) (by kernel_rfl) rfl (by kernel_rfl) (by kernel_rfl) (fun KK hK => ?_)
  go_simp
  refine hK.out _ _ ?_
  clear hK KK
  go_wp2_with fail
  go_end0
  exact ⟨rfl, unhide HF⟩
theorem keepMoreD {w : World} {bk m k n : Nat} {R L : Value} {p : Nat → Pg Am} {X : List Am} (h : KindAt zD w bk m R p) (c0 : w.cell? ⟨bk, 0, none⟩ = some (.int .i64 (k : Int))) (hL : Mine zD w bk m R p L n X) (hk : k < 900) (hm : m < 96) :
    Calls Tryz.prog 31 #[.pointer (some ⟨bk, 0, none⟩), L] w fun e w' => e = .returned (.tuple #[]) ∧ More zD w w' bk m k R p L 0 := by
  obtain ⟨pa, pc, rfl, _⟩ := book_row h
  have hpb : ∀ q, (Value.slice pa m pc).ownBlock = some q → q ≠ bk := fun q hq e => h.rb (by rw [← e]; exact hq)
  have how := hL.own
  obtain ⟨pp, cc, rfl, hnil, _⟩ := row_slice how
  refine (keepOutD bk k n cc pp X hk hL.len hL.le w m pc pa (pages p m) hm c0 h.c1 (h.fz 0) (h.fz 8) (own_lies kD_ok hL.len how) (fun e => (hnil e).2) h.row hpb).mono ?_
  rintro e w' ⟨rfl, ho⟩
  exact ⟨rfl, more_keep h hL hk ho⟩
theorem writeMoreD {w : World} {bk m k n : Nat} {R L : Value} {p : Nat → Pg Am} {X : List Am} (h : KindAt zD w bk m R p) (c0 : w.cell? ⟨bk, 0, none⟩ = some (.int .i64 (k : Int))) (hL : Mine zD w bk m R p L n X) (hk : k < 900) (hm : m < 96) :
    Calls Tryz.prog 33 #[.pointer (some ⟨bk, 0, none⟩), L] w fun e w' => e = .returned (.tuple #[]) ∧ More zD w w' bk m k R p L 2 := by
  obtain ⟨pa, pc, rfl, _⟩ := book_row h
  have hpb : ∀ q, (Value.slice pa m pc).ownBlock = some q → q ≠ bk := fun q hq e => h.rb (by rw [← e]; exact hq)
  refine (writeOutD bk k n L X hk hL.len hL.le w m pc pa (pages p m) hm c0 h.c1 (h.fz 0) (h.fz 8) h.tab h.b3 hL.own hL.l3 (fun e => (hL.apart bk e).1 rfl) h.row (fun q hq => ⟨hpb q hq, fun e => (hL.apart q e).2 (.inl hq)⟩)).mono ?_
  rintro e w' ⟨rfl, ho⟩
  exact ⟨rfl, more_write h hL hk ho⟩
set_option maxRecDepth 100000 in
set_option maxHeartbeats 2000000 in
theorem keepFullD (bk m pc : Nat) (pa : Option Addr) (hm : 96 ≤ m) (w : World) (hk1 : w.cell? ⟨bk, 8, none⟩ = some (.slice pa m pc)) (L : Value) : Calls Tryz.prog 31 #[.pointer (some ⟨bk, 0, none⟩), L] w fun e w' => e = .returned (.tuple #[]) ∧ w' = w := by
  have hI1 : ¬ (m : Int) < 96 := by omega
  go_enter Tryz.func31, Tryz.ntmps31
  go_wp2_with fail
  go_end0
  exact ⟨rfl, rfl⟩
set_option maxRecDepth 100000 in
set_option maxHeartbeats 2000000 in
theorem writeFullD (bk m pc : Nat) (pa : Option Addr) (hm : 96 ≤ m) (w : World) (hk1 : w.cell? ⟨bk, 8, none⟩ = some (.slice pa m pc)) (L : Value) : Calls Tryz.prog 33 #[.pointer (some ⟨bk, 0, none⟩), L] w fun e w' => e = .returned (.tuple #[]) ∧ w' = w := by
  have hI1 : ¬ (m : Int) < 96 := by omega
  go_enter Tryz.func33, Tryz.ntmps33
  go_wp2_with fail
  go_end0
  exact ⟨rfl, rfl⟩
end Go.Proofs.YtdeibifjiefapaaGreatDoor.Kg
