/- sums: the adder of counts: add (24); rising (23, 25). -/
import Derived.Test.YtgohddimnphbkaaDoorSmB
import Derived.Test.YtgohddimnphbkaaDoorIter
import Derived.Sort.KeysCollected
namespace Go.Proofs.YtgohddimnphbkaaDoor
open Go Go.Shelf Go.ChangeShapes Go.WideShapes Go.ChangeAt Go.RowKit Go.Maps Go.Sort
set_option linter.unusedVariables false
theorem u3 : Tryd.prog.underlying 3 = some (.int .i64) := Tryd.underlying3
theorem zero3 (w : World) : (zeroValue 3).run Tryd.prog w = .ok (.int .i64 0) w := by kernel_rfl
theorem map_some64 (b : Nat) (w : World) : (binOp .eql 64 (.map (some b)) (.map none)).run Tryd.prog w = .ok (.bool false) w := by kernel_rfl
theorem map_none64 (w : World) : (binOp .eql 64 (.map none) (.map none)).run Tryd.prog w = .ok (.bool true) w := by kernel_rfl
set_option maxRecDepth 100000 in
set_option maxHeartbeats 2000000 in
theorem addI_some (s : ByteArray) (hs : s.size ≤ maxLen) (x : Int) (d o b n : Nat) (hn : n < maxLen) (f : List UInt8 → Int) (D : DataW Unit) (w : World) (hc : w.cell? ⟨d, o, none⟩ = some (.map (some b))) (hm : w.ownsMap Tryd.prog 9 (plainElem Tryd.prog 3) b n D) (hS : Sm D f) (hdb : d ≠ b) :
    Calls Tryd.prog 24 #[.pointer (some ⟨d, o, none⟩), .string s, .int .i64 x] w fun e w' => AddOut 3 s x d o (some b) n f w e w' b := by
  have K : Keyed Tryd.prog 9 := string_keyed Tryd.underlying9
  have hd1 : d < w.heap.size := World.block_lt_of_cell? w ⟨d, o, none⟩ hc
  obtain ⟨c, hr1, ha1, _⟩ := hm.lookup_int K Tryd.underlying64 u3 (zero3 _) (keyM hs)
  rw [hS.val] at ha1
  have hF : c = f s.data.toList := by injection ha1 with ha1; injection ha1 with _ ha1; exact ha1.symm
  obtain ⟨Y, hY⟩ : ∃ Y, IntKind.i64.wrap (c + x) = Y := ⟨_, rfl⟩
  have hYw : (Lit.int .i64 Y).wf = true := by rw [← hY]; exact wrap_wf _
  obtain ⟨w1, hr2, hm1, hg1⟩ := hm.update K Tryd.underlying64 hn (keyM hs) (plainElem_int u3 hYw)
  obtain ⟨c2, hr3, ha3, _⟩ := hm1.lookup_int K Tryd.underlying64 u3 (zero3 _) (keyM hs)
  rw [atKey_put_same hm.isMap (by trivial)] at ha3
  have hc2 : c2 = Y := by injection ha3 with ha3; injection ha3 with _ ha3; exact ha3.symm
  subst hc2
  have hold1 : ∀ k, k < w.heap.size → k ≠ b → w1.heap[k]? = w.heap[k]? := fun k hk hne => hg1.block k hk (fun e => hne (Option.some.inj e))
  have hc1 : w1.cell? ⟨d, o, none⟩ = some (.map (some b)) := (World.cell?_of_block (a := ⟨d, o, none⟩) (hold1 d hd1 hdb)).trans hc
  have hms := fun W => map_some64 b W
  by_cases hy : c2 = 0
  · subst hy
    obtain ⟨w2, hr4, hm2, ht2⟩ := hm1.drop K Tryd.underlying64 (keyM hs) 0
    have HM := hide hm2; have HG1 := hide hg1; have HG2 := hide ht2.grown; have HF := hide hF; have HS := hide hS; have HC := hide hc; have HO := hide hold1; have HY := hide hY; have HW := hide hm.isMap
    clear ha1 ha3 hm2 hg1 ht2 hF hS hm hm1 hold1
    go_enter Tryd.func24, Tryd.ntmps24
    go_wp2_with fail
    go_end0
    have hg2 := unhide HG2
    have hold : ∀ k, k < w.heap.size → k ≠ b → w2.heap[k]? = w.heap[k]? := fun k hk hne => (hg2.block k (Nat.lt_of_lt_of_le hk (unhide HG1).size) (fun e => hne (Option.some.inj e))).trans (unhide HO k hk hne)
    have hcell : ∀ j, w2.cell? ⟨d, j, none⟩ = w.cell? ⟨d, j, none⟩ := fun j => World.cell?_of_block (a := ⟨d, j, none⟩) (hold d hd1 hdb)
    refine ⟨⟨_, rfl⟩, (hcell o).trans (unhide HC), .inr ⟨b, _, rfl, unhide HM, ?_⟩, .inl rfl, hg2.os.trans (unhide HG1).os, hg2.tape.trans (unhide HG1).tape, hg2.output.trans (unhide HG1).output, Nat.le_trans (unhide HG1).size hg2.size, fun k hk h1 _ => hold k hk (fun e => h1 (by rw [e])), fun j _ => hcell j, fun j => World.frozen?_of_block (a := ⟨d, j, none⟩) (hold d hd1 hdb)⟩
    rw [← unhide HF, unhide HY]
    exact (unhide HS).putDel _ _
  · have HM := hide hm1; have HG1 := hide hg1; have HF := hide hF; have HS := hide hS; have HC := hide hc; have HO := hide hold1; have HY := hide hY; have HN := hide hy; have HW := hide hm.isMap
    have hyb : (c2 == 0) = false := by simpa using hy
    clear ha1 ha3 hg1 hF hS hm hm1 hold1
    go_enter Tryd.func24, Tryd.ntmps24
    go_wp2_with fail
    go_end0
    have hg1 := unhide HG1
    have hold := unhide HO
    have hcell : ∀ j, w1.cell? ⟨d, j, none⟩ = w.cell? ⟨d, j, none⟩ := fun j => World.cell?_of_block (a := ⟨d, j, none⟩) (hold d hd1 hdb)
    refine ⟨⟨_, rfl⟩, (hcell o).trans (unhide HC), .inr ⟨b, _, rfl, unhide HM, ?_⟩, .inl rfl, hg1.os, hg1.tape, hg1.output, hg1.size, fun k hk h1 _ => hold k hk (fun e => h1 (by rw [e])), fun j _ => hcell j, fun j => World.frozen?_of_block (a := ⟨d, j, none⟩) (hold d hd1 hdb)⟩
    rw [← unhide HF, unhide HY]
    exact (unhide HS).put (unhide HW) _ (unhide HN) hYw
set_option maxRecDepth 100000 in
set_option maxHeartbeats 2000000 in
theorem addI_none (s : ByteArray) (hs : s.size ≤ maxLen) (x : Int) (d o n : Nat) (f : List UInt8 → Int) (w : World) (hc : w.cell? ⟨d, o, none⟩ = some (.map none)) (hz : w.frozen? ⟨d, o, none⟩ = false) (hf : ∀ y, f y = 0) :
    Calls Tryd.prog 24 #[.pointer (some ⟨d, o, none⟩), .string s, .int .i64 x] w fun e w' => AddOut 3 s x d o none n f w e w' w.heap.size := by
  have K : Keyed Tryd.prog 9 := string_keyed Tryd.underlying9
  have hd1 : d < w.heap.size := World.block_lt_of_cell? w ⟨d, o, none⟩ hc
  have hS : Sm (.map []) f := by
    have e : f = fun _ => 0 := funext hf
    rw [e]; exact Sm.none
  obtain ⟨W, hW⟩ : ∃ W, W = (w.setCell ⟨d, o, none⟩ (.map (some w.heap.size))).alloc (.map #[] 0) := ⟨_, rfl⟩
  have hsz : (w.setCell ⟨d, o, none⟩ (.map (some w.heap.size))).heap.size = w.heap.size := by simp
  have hm : W.ownsMap (H := Unit) Tryd.prog 9 (plainElem Tryd.prog 3) w.heap.size 0 (.map []) := by
    have h := World.ownsMap_made (H := Unit) (w.setCell ⟨d, o, none⟩ (.map (some w.heap.size))) Tryd.prog 9 (plainElem Tryd.prog 3)
    rw [hsz] at h
    rw [hW]
    exact h
  obtain ⟨c, hr1, ha1, _⟩ := hm.lookup_int K Tryd.underlying64 u3 (zero3 _) (keyM hs)
  rw [hS.val] at ha1
  have hF : c = f s.data.toList := by injection ha1 with ha1; injection ha1 with _ ha1; exact ha1.symm
  obtain ⟨Y, hY⟩ : ∃ Y, IntKind.i64.wrap (c + x) = Y := ⟨_, rfl⟩
  have hYw : (Lit.int .i64 Y).wf = true := by rw [← hY]; exact wrap_wf _
  obtain ⟨w1, hr2, hm1, hg1⟩ := hm.update K Tryd.underlying64 (by unfold maxLen; omega) (keyM hs) (plainElem_int u3 hYw)
  obtain ⟨c2, hr3, ha3, _⟩ := hm1.lookup_int K Tryd.underlying64 u3 (zero3 _) (keyM hs)
  rw [atKey_put_same hm.isMap (by trivial)] at ha3
  have hc2 : c2 = Y := by injection ha3 with ha3; injection ha3 with _ ha3; exact ha3.symm
  subst hc2
  have hWs : W.heap.size = w.heap.size + 1 := by rw [hW]; simp
  have hold0 : ∀ k, k < w.heap.size → W.heap[k]? = (w.setCell ⟨d, o, none⟩ (.map (some w.heap.size))).heap[k]? := fun k hk => by rw [hW]; exact Below.heap_alloc _ _ k (by rw [hsz]; exact hk)
  have hold1 : ∀ k, k < w.heap.size → w1.heap[k]? = (w.setCell ⟨d, o, none⟩ (.map (some w.heap.size))).heap[k]? := fun k hk => (hg1.block k (by omega) (fun e => by injection e with e; omega)).trans (hold0 k hk)
  have hcS : (w.setCell ⟨d, o, none⟩ (.map (some w.heap.size))).cell? ⟨d, o, none⟩ = some (.map (some w.heap.size)) := World.cell?_setCell_same _ _ _ hc
  have hcW : W.cell? ⟨d, o, none⟩ = some (.map (some w.heap.size)) := (World.cell?_of_block (a := ⟨d, o, none⟩) (hold0 d hd1)).trans hcS
  have hc1 : w1.cell? ⟨d, o, none⟩ = some (.map (some w.heap.size)) := (World.cell?_of_block (a := ⟨d, o, none⟩) (hold1 d hd1)).trans hcS
  have hms := fun W => map_none64 W
  have hmk := fun W => run_makeMap (P := Tryd.prog) 64 W
  have hcA : (w.alloc (.map #[] 0)).cell? ⟨d, o, none⟩ = some (.map none) := (Below.cell ((Below.refl w.heap.size w).alloc (Nat.le_refl _) _) (p := ⟨d, o, none⟩) hd1).trans hc
  have hzA : (w.alloc (.map #[] 0)).frozen? ⟨d, o, none⟩ = false := (Below.frozen ((Below.refl w.heap.size w).alloc (Nat.le_refl _) _) (p := ⟨d, o, none⟩) hd1).trans hz
  have hbig : ∀ (w2 : World), (∀ k, k < w.heap.size → w2.heap[k]? = (w.setCell ⟨d, o, none⟩ (.map (some w.heap.size))).heap[k]?) → W.grownBy w2 (some w.heap.size) → ∀ D, w2.ownsMap Tryd.prog 9 (plainElem Tryd.prog 3) w.heap.size 1 D → Sm D (upd f s.data.toList (IntKind.i64.wrap (f s.data.toList + x))) → ∀ r, AddOut 3 s x d o none n f w (.returned r) w2 w.heap.size := by
    intro w2 hold hg D hM hSm r
    have hcell : ∀ j, w2.cell? ⟨d, j, none⟩ = (w.setCell ⟨d, o, none⟩ (.map (some w.heap.size))).cell? ⟨d, j, none⟩ := fun j => World.cell?_of_block (a := ⟨d, j, none⟩) (hold d hd1)
    have eo : W.os = w.os := by rw [hW]; rfl
    have et : W.tape = w.tape := by rw [hW]; rfl
    have eu : W.output = w.output := by rw [hW]; rfl
    refine ⟨⟨_, rfl⟩, (hcell o).trans hcS, .inr ⟨_, _, rfl, hM.mono (by omega), hSm⟩, .inr ⟨rfl, Nat.le_refl _⟩, hg.os.trans eo, hg.tape.trans et, hg.output.trans eu, by have := hg.size; omega, fun k hk _ h2 => (hold k hk).trans (Below.heap_setCell _ ⟨d, o, none⟩ _ k (h2 rfl)), fun j hj => (hcell j).trans (World.cell?_setCell_other _ _ _ _ (fun e => hj (by cases e; rfl))), fun j => (World.frozen?_of_block (a := ⟨d, j, none⟩) (hold d hd1)).trans (by rw [World.frozen?_setCell])⟩
  have HB := hide hbig
  by_cases hy : c2 = 0
  · subst hy
    obtain ⟨w2, hr4, hm2, ht2⟩ := hm1.drop K Tryd.underlying64 (keyM hs) 0
    have HM := hide hm2; have HG1 := hide hg1; have HG2 := hide ht2.grown; have HF := hide hF; have HS := hide hS; have HO := hide hold1; have HY := hide hY
    clear ha1 ha3 hm2 hg1 ht2 hF hS hm hm1 hold1 hbig hold0 hcS hf hcW hWs hsz
    subst hW
    go_enter Tryd.func24, Tryd.ntmps24
    go_wp2_with fail
    go_end0
    have hg2 := unhide HG2
    refine unhide HB w2 (fun k hk => (hg2.block k (by have := (unhide HG1).size; simp at this; omega) (fun e => by injection e with e; omega)).trans (unhide HO k hk)) ((unhide HG1).trans hg2) _ (unhide HM) ?_ _
    rw [← unhide HF, unhide HY]
    exact (unhide HS).putDel _ _
  · have HM := hide hm1; have HG1 := hide hg1; have HF := hide hF; have HS := hide hS; have HO := hide hold1; have HY := hide hY; have HN := hide hy; have HW := hide hm.isMap
    have hyb : (c2 == 0) = false := by simpa using hy
    clear ha1 ha3 hg1 hF hS hm hm1 hold1 hbig hold0 hcS hf hcW hWs hsz
    subst hW
    go_enter Tryd.func24, Tryd.ntmps24
    go_wp2_with fail
    go_end0
    refine unhide HB w1 (unhide HO) (unhide HG1) _ (unhide HM) ?_ _
    rw [← unhide HF, unhide HY]
    exact (unhide HS).put (unhide HW) _ (unhide HN) hYw
theorem addI_any (s : ByteArray) (hs : s.size ≤ maxLen) (x : Int) (d o n : Nat) (hn : n < maxLen) (mo : Option Nat) (f : List UInt8 → Int) (w : World) (hc : w.cell? ⟨d, o, none⟩ = some (.map mo)) (hz : w.frozen? ⟨d, o, none⟩ = false) (hM : MapAt 3 w mo n f) (hdb : ∀ b, mo = some b → d ≠ b) :
    Calls Tryd.prog 24 #[.pointer (some ⟨d, o, none⟩), .string s, .int .i64 x] w fun e w' => ∃ b', AddOut 3 s x d o mo n f w e w' b' := by
  rcases hM with ⟨rfl, hf⟩ | ⟨b, D, rfl, hm, hS⟩
  · exact (addI_none s hs x d o n f w hc hz hf).mono fun e w' h => ⟨_, h⟩
  · exact (addI_some s hs x d o b n hn f D w hc hm hS (hdb b rfl)).mono fun e w' h => ⟨_, h⟩
theorem strKeys_mem {R : Value → Option (DataW Unit × List MemPlace)} {w : World} {b n : Nat} {D : DataW Unit} (h : w.ownsMap Tryd.prog 9 R b n D) : (strKeys D).Nodup ∧ ∀ x, x ∈ strKeys D ↔ has D (.string x) = true := by
  obtain ⟨es, he, hp⟩ := h.tidy (string_keyed Tryd.underlying9)
  obtain ⟨es', he', hk⟩ := h.keysOf
  rw [he] at he'
  injection he' with he'
  subst he'
  subst he
  have hs : ∀ p ∈ es, ∃ x, p.1 = .string x := fun p hp => by
    obtain ⟨key, hkey⟩ := hk p hp
    obtain ⟨x, _, hx, _⟩ := Maps.keyOf_str Tryd.underlying9 hkey
    exact ⟨x, hx⟩
  have e : strKeys (.map es : DataW Unit) = es.map (fun p => strOf p.1) := rfl
  rw [e]
  clear hk h e
  constructor
  · rw [List.nodup_iff_pairwise_ne, List.pairwise_map]
    refine List.Pairwise.imp_of_mem ?_ hp
    intro p q hpm hqm hne e
    obtain ⟨x, hx⟩ := hs p hpm
    obtain ⟨y, hy⟩ := hs q hqm
    rw [hx, hy] at e
    simp only [strOf] at e
    exact hne (by rw [hx, hy, e])
  · intro x
    rw [has_eq, List.mem_map, List.any_eq_true]
    constructor
    · rintro ⟨p, hpm, rfl⟩
      obtain ⟨y, hy⟩ := hs p hpm
      exact ⟨p, hpm, by rw [hy]; simp [strOf, Lit.sameKey]⟩
    · rintro ⟨p, hpm, hq⟩
      obtain ⟨y, hy⟩ := hs p hpm
      refine ⟨p, hpm, ?_⟩
      rw [hy] at hq ⊢
      simpa [strOf, Lit.sameKey] using hq
/-- names in their order -/
def srt (l : List (List UInt8)) : List (List UInt8) := l.mergeSort (fun x y => decide (x ≤ y))
theorem row_up {w : World} {B B' : Nat} {v : Value} {e s n : Nat} {xs : List Value} (h : w.ownsRow B e s v n xs) (hq : B' ≤ B) : w.ownsRow B' e s v n xs := by
  refine ⟨h.1, ?_⟩
  rcases h.2 with h1 | ⟨g, cap, cur, rfl, hb, rest⟩
  · exact .inl h1
  · exact .inr ⟨g, cap, cur, rfl, Nat.le_trans hq hb, rest⟩
/-- what rising hands out -/
def RisOut (w : World) (n : Nat) (f : List UInt8 → Int) (e : Ending) (w' : World) : Prop :=
  ∃ v ss, e = .returned v ∧ ss.Nodup ∧ (∀ k, k ∈ ss ↔ f k ≠ 0) ∧ (∀ k ∈ ss, k.length ≤ maxLen) ∧ ss.length ≤ n ∧ w'.ownsRow w.heap.size 9 1 v ss.length ((srt ss).map encStr) ∧ Below w.heap.size w w'
set_option maxRecDepth 100000 in
set_option maxHeartbeats 4000000 in
theorem rising_any (d o n : Nat) (hn : n ≤ 1099511627776) (mo : Option Nat) (f : List UInt8 → Int) (w : World) (hc : w.cell? ⟨d, o, none⟩ = some (.map mo)) (hM : MapAt 2 w mo n f) : Calls Tryd.prog 23 #[.pointer (some ⟨d, o, none⟩)] w fun e w' => RisOut w n f e w' := by
  rcases hM with ⟨rfl, hf⟩ | ⟨b, D, rfl, hm, hS⟩
  · refine (callsIn_wide (n := 6)).1 ?_
    have hfK : Fence.wide.fn 34 := trivial
    have hfS : Fence.wide.fn 33 := trivial
    refine callsIn_of_wp Tryd.func23 rfl trivial ?_ rfl
    simp only [Tryd.ntmps23, List.size_toArray, List.length_cons, List.length_nil, Nat.reduceAdd, Nat.reduceSub, Array.replicate_succ, Array.replicate_zero, List.push_toArray, List.append_toArray, List.nil_append, List.cons_append]
    gi_wp2_with (first
      | (gi_at_call 34; refine (Tryd.maps_Keys_34 _ _).mono ?_; rintro e w' ⟨rfl, rfl⟩)
      | (gi_at_call 33; refine (Tryd.slices_Sorted_keys_nil_33_34 w).mono ?_; rintro e w' ⟨v, ss, rfl, hS, hrow, hnil, hb⟩))
    go_ret
    subst hS
    refine ⟨v, [], rfl, List.nodup_nil, (fun k => by simp [hf]), (fun k hk => (by cases hk)), (by simp), row_up hrow (by simp), ((Below.refl _ w).alloc (Nat.le_refl _) _).trans (hb.mono (by simp))⟩
  · have hsz : Maps.size D ≤ n := hm.size_le
    have hmax : Maps.size D ≤ maxLen := by unfold maxLen; omega
    have hbytes : Maps.size D * 16 ≤ 140737488355328 := by omega
    have hkm := strKeys_mem hm
    have hkl := strKeys_le hm Tryd.underlying9
    have HKM := hide hkm; have HKL := hide hkl; have HSm := hide hS; have HSZ := hide hsz
    have hkz : (strKeys D).length = Maps.size D := by
      obtain ⟨es, he⟩ := hm.isMap
      subst he
      show (es.map (fun p => strOf p.1)).length = es.length
      simp
    have HKZ := hide hkz
    clear hkm hkl hS hsz hkz
    refine (callsIn_wide (n := 6)).1 ?_
    have hfK : Fence.wide.fn 34 := trivial
    have hfS : Fence.wide.fn 33 := trivial
    refine callsIn_of_wp Tryd.func23 rfl trivial ?_ rfl
    simp only [Tryd.ntmps23, List.size_toArray, List.length_cons, List.length_nil, Nat.reduceAdd, Nat.reduceSub, Array.replicate_succ, Array.replicate_zero, List.push_toArray, List.append_toArray, List.nil_append, List.cons_append]
    gi_wp2_with (first
      | (gi_at_call 34; refine (Tryd.maps_Keys_34 _ _).mono ?_; rintro e w' ⟨rfl, rfl⟩)
      | (gi_at_call 33; refine (Tryd.slices_Sorted_keys_33_34 b n D (plainElem Tryd.prog 2) w hm hmax hbytes).mono ?_; rintro e w' ⟨v, ss, rfl, hS, hrow, hnil, hb⟩))
    go_ret
    refine ⟨v, ss, rfl, hS.nodup_iff.2 (unhide HKM).1, fun k => ?_, fun k hk => unhide HKL k (hS.mem_iff.1 hk), ?_, row_up hrow (by simp), ((Below.refl _ w).alloc (Nat.le_refl _) _).trans (hb.mono (by simp))⟩
    · rw [hS.mem_iff, (unhide HKM).2, (unhide HSm).key]
      simp
    · rw [hS.length_eq, unhide HKZ]
      exact unhide HSZ
set_option maxRecDepth 100000 in
set_option maxHeartbeats 4000000 in
theorem risingI_any (d o n : Nat) (hn : n ≤ 1099511627776) (mo : Option Nat) (f : List UInt8 → Int) (w : World) (hc : w.cell? ⟨d, o, none⟩ = some (.map mo)) (hM : MapAt 3 w mo n f) : Calls Tryd.prog 25 #[.pointer (some ⟨d, o, none⟩)] w fun e w' => RisOut w n f e w' := by
  rcases hM with ⟨rfl, hf⟩ | ⟨b, D, rfl, hm, hS⟩
  · refine (callsIn_wide (n := 6)).1 ?_
    have hfK : Fence.wide.fn 35 := trivial
    have hfS : Fence.wide.fn 33 := trivial
    refine callsIn_of_wp Tryd.func25 rfl trivial ?_ rfl
    simp only [Tryd.ntmps25, List.size_toArray, List.length_cons, List.length_nil, Nat.reduceAdd, Nat.reduceSub, Array.replicate_succ, Array.replicate_zero, List.push_toArray, List.append_toArray, List.nil_append, List.cons_append]
    gi_wp2_with (first
      | (gi_at_call 35; refine (Tryd.maps_Keys_35 _ _).mono ?_; rintro e w' ⟨rfl, rfl⟩)
      | (gi_at_call 33; refine (Tryd.slices_Sorted_keys_nil_33_35 w).mono ?_; rintro e w' ⟨v, ss, rfl, hS, hrow, hnil, hb⟩))
    go_ret
    subst hS
    refine ⟨v, [], rfl, List.nodup_nil, (fun k => by simp [hf]), (fun k hk => (by cases hk)), (by simp), row_up hrow (by simp), ((Below.refl _ w).alloc (Nat.le_refl _) _).trans (hb.mono (by simp))⟩
  · have hsz : Maps.size D ≤ n := hm.size_le
    have hmax : Maps.size D ≤ maxLen := by unfold maxLen; omega
    have hbytes : Maps.size D * 16 ≤ 140737488355328 := by omega
    have hkm := strKeys_mem hm
    have hkl := strKeys_le hm Tryd.underlying9
    have HKM := hide hkm; have HKL := hide hkl; have HSm := hide hS; have HSZ := hide hsz
    have hkz : (strKeys D).length = Maps.size D := by
      obtain ⟨es, he⟩ := hm.isMap
      subst he
      show (es.map (fun p => strOf p.1)).length = es.length
      simp
    have HKZ := hide hkz
    clear hkm hkl hS hsz hkz
    refine (callsIn_wide (n := 6)).1 ?_
    have hfK : Fence.wide.fn 35 := trivial
    have hfS : Fence.wide.fn 33 := trivial
    refine callsIn_of_wp Tryd.func25 rfl trivial ?_ rfl
    simp only [Tryd.ntmps25, List.size_toArray, List.length_cons, List.length_nil, Nat.reduceAdd, Nat.reduceSub, Array.replicate_succ, Array.replicate_zero, List.push_toArray, List.append_toArray, List.nil_append, List.cons_append]
    gi_wp2_with (first
      | (gi_at_call 35; refine (Tryd.maps_Keys_35 _ _).mono ?_; rintro e w' ⟨rfl, rfl⟩)
      | (gi_at_call 33; refine (Tryd.slices_Sorted_keys_33_35 b n D (plainElem Tryd.prog 3) w hm hmax hbytes).mono ?_; rintro e w' ⟨v, ss, rfl, hS, hrow, hnil, hb⟩))
    go_ret
    refine ⟨v, ss, rfl, hS.nodup_iff.2 (unhide HKM).1, fun k => ?_, fun k hk => unhide HKL k (hS.mem_iff.1 hk), ?_, row_up hrow (by simp), ((Below.refl _ w).alloc (Nat.le_refl _) _).trans (hb.mono (by simp))⟩
    · rw [hS.mem_iff, (unhide HKM).2, (unhide HSm).key]
      simp
    · rw [hS.length_eq, unhide HKZ]
      exact unhide HSZ
end Go.Proofs.YtgohddimnphbkaaDoor
