import Derived.Test.YtpeefmbdhkfhmaaGreatDoorW09
import Derived.Test.YtpeefmbdhkfhmaaGreatDoorW15
import Derived.Maps.OwnIn
/- sums: State (9). -/
namespace Go.Proofs.YtpeefmbdhkfhmaaGreatDoor
open Go Go.RowKit Go.Shelf Go.ChangeShapes Go.WideShapes Go.ChangeAt Go.Maps Go.Sort
set_option linter.unusedVariables false
attribute [local go_sem] Oper.semAt_some
theorem srt_len (l : List (List UInt8)) : (srt l).length = l.length := List.length_mergeSort _
theorem srt_mem {l : List (List UInt8)} {k : List UInt8} : k ∈ srt l ↔ k ∈ l := List.mem_mergeSort
theorem srt_perm (l : List (List UInt8)) : (srt l).Perm l := List.mergeSort_perm _ _
theorem srt_eq {a b : List (List UInt8)} (ha : a.Nodup) (hb : b.Nodup) (h : ∀ k, k ∈ a ↔ k ∈ b) : srt a = srt b := mergeSort_of_perm ((List.perm_ext_iff_of_nodup ha hb).2 h)
/-- a name as a row that counts 1 -/
def roK (k : List UInt8) : Ro := ⟨0, 0, 0, 0, ⟨#[]⟩, ⟨k.toArray⟩, 1, ⟨#[]⟩, ⟨#[]⟩⟩
/-- the counts' adder in memory: its block hb, its map -/
structure HAt (W : World) (hb : Nat) (mo : Option Nat) (n : Nat) (f : List UInt8 → Int) : Prop where
  c0 : W.cell? ⟨hb, 0, none⟩ = some (.map mo)
  fz : W.frozen? ⟨hb, 0, none⟩ = false
  map : MapAt 3 W mo n f
  d0 : ∀ b, mo = some b → hb < b
theorem HAt.block {W W' : World} {hb : Nat} {mo : Option Nat} {n : Nat} {f : List UInt8 → Int} (h : HAt W hb mo n f) (e : ∀ k, k = hb ∨ mo = some k → W'.heap[k]? = W.heap[k]?) : HAt W' hb mo n f :=
  ⟨(World.cell?_of_block (a := ⟨hb, 0, none⟩) (e hb (.inl rfl))).trans h.c0, (World.frozen?_of_block (a := ⟨hb, 0, none⟩) (e hb (.inl rfl))).trans h.fz, h.map.block (fun b hb' => e b (.inr hb')), h.d0⟩
theorem HAt.lt {W : World} {hb : Nat} {mo : Option Nat} {n : Nat} {f : List UInt8 → Int} (h : HAt W hb mo n f) : ∀ k, k = hb ∨ mo = some k → k < W.heap.size := by
  rintro k (rfl | rfl)
  · exact World.block_lt_of_cell? W _ h.c0
  · exact h.map.lt
theorem HAt.not_lpy {W : World} {hb : Nat} {mo : Option Nat} {n : Nat} {f : List UInt8 → Int} (h : HAt W hb mo n f) {q : Nat} {o : Obj} (ho : W.heap[q]? = some o) (hl : lpy o = true) : ¬ (q = hb ∨ mo = some q) := by
  rintro (rfl | rfl)
  · have hc := h.c0
    unfold World.cell? at hc
    simp only [ho] at hc
    cases o <;> simp_all [lpy]
  · obtain ⟨es, clock, e⟩ := h.map.obj
    rw [e] at ho
    cases ho
    simp [lpy] at hl
/-- since the adder was laid: nothing older has changed, nor a row of cells beside it -/
def Ha (w0 : World) (hb : Nat) (n : Nat) (f : List UInt8 → Int) (v : Value) (ks : List (List UInt8)) (W : World) : Prop :=
  ∃ mo, HAt W hb mo n f ∧ Below hb w0 W ∧ W.ownsRow (hb + 1) 9 1 v ks.length (ks.map encStr)
theorem row_block {W : World} {B g e s n : Nat} {v : Value} {xs : List Value} (h : W.ownsRow B e s v n xs) (hg : v.ownBlock = some g) : B ≤ g ∧ g < W.heap.size ∧ ∃ o, W.heap[g]? = some o ∧ o.isCells = true := by
  rcases h.2 with ⟨e, _⟩ | ⟨g', c, xs, e, hB, hh, _⟩
  · rw [e] at hg; cases hg
  · rw [e] at hg
    have e2 : g' = g := by injection hg
    subst e2
    exact ⟨hB, (Array.getElem?_eq_some_iff.1 hh).1, _, hh, rfl⟩
theorem row_keep {W W' : World} {B e s n : Nat} {v : Value} {xs : List Value} (h : W.ownsRow B e s v n xs) (hk : ∀ g, v.ownBlock = some g → W'.heap[g]? = W.heap[g]?) : W'.ownsRow B e s v n xs := by
  refine ⟨h.1, ?_⟩
  rcases h.2 with h1 | ⟨g, cap, cur, rfl, hb, hh, rest⟩
  · exact .inl h1
  · exact .inr ⟨g, cap, cur, rfl, hb, (hk g rfl).trans hh, rest⟩
section
variable {w0 W W' : World} {hb n : Nat} {f : List UInt8 → Int} {v : Value} {ks : List (List UInt8)}
theorem Ha.turn (h : Ha w0 hb n f v ks W) {row : Option Nat} (hg : W.grownBy W' row) (hr : ∀ r, row = some r → hb ≤ r ∧ ∃ o, W.heap[r]? = some o ∧ lpy o = true) : Ha w0 hb n f v ks W' := by
  obtain ⟨mo, h1, h2, h3⟩ := h
  refine ⟨mo, h1.block (fun k hk => hg.block k (h1.lt k hk) (fun e => ?_)), h2.trans ⟨hg.os, hg.tape, hg.output, hg.size, fun k hk => hg.block k (Nat.lt_of_lt_of_le hk (by have := h1.lt hb (.inl rfl); omega)) (fun e => ?_)⟩, row_keep h3 (fun g hg' => hg.block g (row_block h3 hg').2.1 (fun e => ?_))⟩
  · obtain ⟨_, o, ho, hl⟩ := hr k e.symm
    exact h1.not_lpy ho hl hk
  · obtain ⟨h4, _⟩ := hr k e.symm
    omega
  · obtain ⟨_, o, ho, hl⟩ := hr g e.symm
    obtain ⟨_, _, o', ho', hc⟩ := row_block h3 hg'
    rw [ho] at ho'
    cases ho'
    cases o <;> simp_all [lpy, Obj.isCells]
theorem Ha.below (h : Ha w0 hb n f v ks W) (hB : Below W.heap.size W W') : Ha w0 hb n f v ks W' := h.turn (grown_of_below hB) (fun r e => by cases e)
theorem Ha.mono (h : Ha w0 hb n f v ks W) {n' : Nat} (hn : n ≤ n') : Ha w0 hb n' f v ks W := by
  obtain ⟨mo, h1, h2⟩ := h
  exact ⟨mo, ⟨h1.c0, h1.fz, h1.map.mono hn, h1.d0⟩, h2⟩
theorem Ha.add (h : Ha w0 hb n f v ks W) (hn : n < maxLen) {s : ByteArray} (hs : s.size ≤ maxLen) (x : Int) :
    Calls Tryz.prog 86 #[.pointer (some ⟨hb, 0, none⟩), .string s, .int .i64 x] W fun e W' => (∃ r, e = .returned r) ∧ Ha w0 hb (n + 1) (upd f s.data.toList (IntKind.i64.wrap (f s.data.toList + x))) v ks W' ∧ KeepsL W W' := by
  obtain ⟨mo, h1, h2, h3⟩ := h
  refine (addI_any s hs x hb 0 n hn mo f W h1.c0 h1.fz h1.map (fun b e => Nat.ne_of_lt (h1.d0 b e))).mono ?_
  rintro e W' ⟨b', ho⟩
  have hlt := h1.lt
  refine ⟨ho.ret, ⟨some b', ⟨ho.cell, (ho.frozen 0).trans h1.fz, ho.map, fun b e => ?_⟩, h2.trans ⟨ho.os, ho.tape, ho.output, ho.size, fun k hk => ho.old k (Nat.lt_trans hk (hlt hb (.inl rfl))) (fun e => ?_) (fun _ e => by omega)⟩, row_keep h3 (fun g hg => ?_)⟩, ho.size, fun k o hk hl => ?_⟩
  · cases e
    rcases ho.what with e | ⟨_, e⟩
    · exact h1.d0 b' e
    · have := hlt hb (.inl rfl); omega
  · have := h1.d0 k e.symm; omega
  · obtain ⟨hg1, hg2, o, ho', hc⟩ := row_block h3 hg
    refine ho.old g hg2 (fun e => ?_) (fun _ e => by omega)
    subst e
    obtain ⟨es, clock, e⟩ := h1.map.obj
    rw [e] at ho'
    cases ho'
    cases hc
  · refine (ho.old k (Array.getElem?_eq_some_iff.1 hk).1 (fun e => h1.not_lpy hk hl (.inr e.symm)) (fun _ e => h1.not_lpy hk hl (.inl e))).trans hk
end
end Go.Proofs.YtpeefmbdhkfhmaaGreatDoor
/- sums: State (9). -/
namespace Go.Proofs.YtpeefmbdhkfhmaaGreatDoor
open Go Go.RowKit Go.Shelf Go.ChangeShapes Go.WideShapes Go.ChangeAt Go.Maps Go.Sort
set_option linter.unusedVariables false
attribute [local go_sem] Oper.semAt_some
theorem cnt_sum (ks : List (List UInt8)) (k : List UInt8) : roll ups (rws (ks.map roK)) k = sm (fun x => if k ∈ x :: ups x then 1 else 0) ks := by
  induction ks with
  | nil => rfl
  | cons x l ih =>
    simp only [List.map_cons, rws, roll, sm] at ih ⊢
    rw [ih]
    by_cases e : k ∈ x :: ups x
    · rw [if_pos (show k ∈ (roK x).row.fst :: ups (roK x).row.fst from e), if_pos e]
      rfl
    · rw [if_neg (show ¬ k ∈ (roK x).row.fst :: ups (roK x).row.fst from e), if_neg e]
theorem cnt_bd (ks : List (List UInt8)) (k : List UInt8) : 0 ≤ sm (fun x => if k ∈ x :: ups x then (1 : Int) else 0) ks ∧ sm (fun x => if k ∈ x :: ups x then (1 : Int) else 0) ks ≤ ks.length ∧ (sm (fun x => if k ∈ x :: ups x then (1 : Int) else 0) ks ≠ 0 ↔ ∃ x ∈ ks, k ∈ x :: ups x) := by
  induction ks with
  | nil => simp [sm]
  | cons x l ih =>
    obtain ⟨h1, h2, h3⟩ := ih
    simp only [sm, List.length_cons]
    by_cases e : k ∈ x :: ups x
    · rw [if_pos e]
      refine ⟨by omega, by omega, fun _ => ⟨x, by simp, e⟩, fun _ => by omega⟩
    · rw [if_neg e]
      refine ⟨by omega, by omega, fun h => ?_, fun ⟨y, hy, hk⟩ => ?_⟩
      · obtain ⟨y, hy, hk⟩ := h3.1 (by omega)
        exact ⟨y, by simp [hy], hk⟩
      · rcases List.mem_cons.1 hy with rfl | hy
        · exact absurd hk e
        · have := h3.2 ⟨y, hy, hk⟩
          omega
def balC (f g : List UInt8 → Int) (l : List (List UInt8)) : List Value := l.flatMap fun k => [encStr k, .int .i64 (f k), .int .i64 (g k)]
theorem balC_len (f g : List UInt8 → Int) (l : List (List UInt8)) : (balC f g l).length = l.length * 3 := by
  induction l with
  | nil => rfl
  | cons x l ih => simp only [balC, List.flatMap_cons, List.length_append, List.length_cons, List.length_nil] at ih ⊢; rw [ih]; omega
theorem balC_snoc (f g : List UInt8 → Int) (l : List (List UInt8)) (k : List UInt8) : balC f g (l ++ [k]) = balC f g l ++ [encStr k, .int .i64 (f k), .int .i64 (g k)] := by simp [balC]
/-- what State hands out -/
def StOut (w : World) (n : Nat) (f g : List UInt8 → Int) (e : Ending) (w' : World) : Prop :=
  ∃ v hs, e = .returned v ∧ hs.Nodup ∧ (∀ k, k ∈ hs ↔ ∃ x, f x ≠ 0 ∧ k ∈ x :: ups x) ∧ hs.length ≤ 6 * n ∧ w'.ownsRow w.heap.size 38 3 v hs.length (balC f g (srt hs)) ∧ Below w.heap.size w w'
theorem info47 : (Tryz.prog.info? 38).map (fun i => (i.zero, i.size, i.bytes)) = some (some (.agg #[.string ⟨#[]⟩, .int .i64 0, .int .i64 0]), 3, 32) := by kernel_rfl
/-- a name out of a row of names -/
theorem row_get {W : World} {B : Nat} {v : Value} {ks : List (List UInt8)} (h : W.ownsRow B 9 1 v ks.length (ks.map encStr)) {i : Nat} (hi : i < ks.length) : ∃ g c, v = .slice (some ⟨g, 0, none⟩) ks.length c ∧ W.cell? ⟨g, i, none⟩ = some (encStr ks[i]) := by
  rcases h.2 with ⟨_, h2⟩ | ⟨g, cap, cur, e, hB, hh, hc, hm, hcs, ht⟩
  · omega
  · refine ⟨g, cap, e, ?_⟩
    have hk2 : (cur.toList.take (ks.length * 1))[i]? = some (encStr ks[i]) := by rw [ht]; simp [List.getElem?_eq_getElem hi]
    rw [List.getElem?_take_of_lt (by omega)] at hk2
    unfold World.cell?
    simp only [hh]
    simpa using hk2
structure StRel (w : World) (v : Value) (ks : List (List UInt8)) (i : Nat) (ds : List Nat) (W : World) : Prop where
  ha : Ha w w.heap.size (6 * i) (apG (fun _ => 0) (ks.map roK) i) v ks W
  nd : ds.Nodup
  lp : ∀ D ∈ ds, w.heap.size < D ∧ W.heap[D]? = some (.deferred (some []))
theorem Ha.own {w : World} {n : Nat} {f : List UInt8 → Int} {v : Value} {ks : List (List UInt8)} : OwnL w.heap.size (fun (_ : Unit) W => Ha w w.heap.size n f v ks W) := fun _ W W' row h hg hr => h.turn hg hr
set_option maxRecDepth 100000 in
set_option maxHeartbeats 4000000 in
theorem state_any (d : Nat) (mo mr : Option Nat) (n : Nat) (hn : n ≤ 68719476736) (f g : List UInt8 → Int) (a c : Int) (w : World) (hS : SumsAt w d mo mr n f g a c) (hnm : ∀ k, f k ≠ 0 → nameL k = true ∧ k.length < 4611686018427387904) :
    Calls Tryz.prog 18 #[.pointer (some ⟨d, 0, none⟩)] w fun e w' => StOut w n f g e w' := by
  have HS := hide hS
  have hdw : d < w.heap.size := World.block_lt_of_cell? w _ hS.c0
  have hbA : Below w.heap.size w (w.alloc (.cells #[.map none] 109)) := bal (Below.refl _ _) _
  have hSA := hS.below hbA
  have dR := hide (rising_any d 0 n (by omega) mo f _ hSA.c0 hSA.own)
  have HNM := hide hnm
  clear hS hSA hnm
  refine (callsIn_wide (n := 6)).1 ?_
  refine callsIn_of_wp_marks Tryz.func18 rfl trivial ?_ rfl
  simp only [Tryz.ntmps18, List.size_toArray, List.length_cons, List.length_nil, Nat.reduceAdd, Nat.reduceSub, Array.replicate_succ, Array.replicate_zero, List.push_toArray, List.append_toArray, List.nil_append, List.cons_append]
  gi_wp2_with fail
  refine ⟨trivial, ?_⟩
  refine (callsIn_wide.2 (unhide dR)).mono ?_
  rintro e w1 ⟨v, ss, rfl, hnd, hmem, hml, hlen, hrow, hb1⟩
  rw [World.size_alloc] at hrow hb1
  obtain ⟨ks, hks⟩ : ∃ ks, ks = srt ss := ⟨_, rfl⟩
  have hkl : ks.length = ss.length := by rw [hks, srt_len]
  have hkm : ∀ k, k ∈ ks ↔ f k ≠ 0 := fun k => by rw [hks, srt_mem, hmem]
  rw [← hks, ← hkl] at hrow
  have hlen' : ks.length ≤ n := by omega
  have hin : Hid (∀ i (hi : i < ks.length), nameL ks[i] = true ∧ ks[i].length < 4611686018427387904) := fun i hi => unhide HNM _ ((hkm _).1 (List.getElem_mem hi))
  have hh0 : HAt w1 w.heap.size none 0 (fun _ => 0) := by
    have e : w1.heap[w.heap.size]? = (w.alloc (.cells #[.map none] 109)).heap[w.heap.size]? := hb1.block w.heap.size (by omega)
    refine ⟨(World.cell?_of_block (a := ⟨w.heap.size, 0, none⟩) e).trans (box_new _ _ _), (World.frozen?_of_block (a := ⟨w.heap.size, 0, none⟩) e).trans (by simp), .inl ⟨rfl, fun _ => rfl⟩, fun b h => by cases h⟩
  have hB1 : Below w.heap.size w w1 := hbA.trans (hb1.mono (by omega))
  have hha0 : Hid (Ha w w.heap.size 0 (fun _ => 0) v ks w1) := ⟨none, hh0, hB1, hrow⟩
  have HKM := hide hkm; have HKL := hide hkl
  obtain ⟨m, hm⟩ : ∃ m, m = ks.length := ⟨_, rfl⟩
  obtain ⟨pv, cv, hv⟩ : ∃ pv cv, v = .slice pv m cv := by
    rw [hm]
    rcases hrow.2 with ⟨e, h2⟩ | ⟨g, cap, cur, e, _⟩
    · exact ⟨none, 0, by rw [e, h2]⟩
    · exact ⟨_, _, e⟩
  have HM := hide hm; have HLEN := hide hlen'
  have hm36 : m ≤ 68719476736 := by rw [hm]; omega
  clear dR hmem hml hlen hrow hb1 hks hkl hkm hh0 hB1 hnd hlen' hbA hm
  subst hv
  gi_wp2_with fail
  refine wpIn_loop (fun b' w' => ∃ v5 v6 v16 v17 v18 v19 v20 v21 v22 v23 v24 : Value, ∃ (i : Nat) (ds : List Nat), (i ≤ m ∧ Hid (StRel w (.slice pv m cv) ks i ds w')) ∧ b' = { tmps := #[Value.pointer (some { block := d, off := 0 }), undef, Value.slice none 0 0, Value.pointer (some { block := w.heap.size, off := 0 }), undef, v5, v6, undef, undef, undef, Value.pointer (some { block := d, off := 0 }), Value.pointer (some { block := d, off := 0 }), Value.pointer (some { block := d, off := 0 }), Value.slice pv m cv, Value.int IntKind.i64 m, Value.int IntKind.i64 (i : Int), v16, v17, v18, v19, v20, v21, v22, v23, v24, undef, undef, undef, undef, undef, undef, undef, undef, undef, undef, undef, undef, undef, undef, undef, undef, undef, undef, undef], defers := ds.map mk8 }) (fun b' _ => m - (intOf (b'.tmps.getD 15 undef)).toNat) ?_ ?_
  · refine ⟨undef, undef, undef, undef, undef, undef, undef, undef, undef, undef, undef, 0, [], ⟨by omega, ?_⟩, rfl⟩
    have e1 : apG (fun _ => 0) (ks.map roK) 0 = fun _ => 0 := funext fun k => by simp [apG, rws, roll, sm]; decide
    refine ⟨?_, List.nodup_nil, fun D h => by cases h⟩
    rw [e1]
    exact unhide hha0
  · rintro b' wr ⟨v5, v6, v16, v17, v18, v19, v20, v21, v22, v23, v24, i, ds, ⟨hi, hrel⟩, rfl⟩
    clear hha0
    by_cases hlt : i < m
    · have hr := unhide hrel
      have hik : i < ks.length := by rw [← unhide HM]; exact hlt
      obtain ⟨mo1, hha, hbw, hrow⟩ := hr.ha
      obtain ⟨q, cq, hq, hcell⟩ := row_get hrow hik
      have hpv : pv = some ⟨q, 0, none⟩ := by injection hq
      subst hpv
      clear hq
      obtain ⟨s, hs⟩ : ∃ s : ByteArray, s = ⟨(ks[i]).toArray⟩ := ⟨_, rfl⟩
      have hse : encStr ks[i] = .string s := by rw [hs]
      have hsl : s.data.toList = ks[i] := by rw [hs]
      rw [hse] at hcell
      have hin1 := unhide hin i hik
      have hssz : s.size < 4611686018427387904 := by
        have e : s.size = (ks[i]).length := by rw [hs]; simp [ByteArray.size]
        rw [e]
        exact hin1.2
      have hsn : nameL s.data.toList = true := by rw [hsl]; exact hin1.1
      have hz1 : w.heap.size < wr.heap.size := hha.lt _ (.inl rfl)
      have HSL := hide hsl; have HSSZ := hide hssz; have HSN := hide hsn; have HZ1 := hide hz1
      clear hse hs hsl hin1 hha hbw hrow hr hz1 hsn hssz
      dsimp only
      gi_wp2_with fail
      refine ⟨trivial, (callsIn_wide.2 (upwards_any s _)).mono ?_⟩
      rintro e w3 ⟨rfl, hw3⟩
      have hb3 : Below wr.heap.size wr w3 := by rw [hw3]; exact bal (Below.refl _ _) _
      have hB3 : w3.cell? ⟨wr.heap.size, 0, none⟩ = some (.string s) := by rw [hw3]; exact box_new _ _ _
      have hseq := hide (up_gives s (unhide HSSZ) (unhide HSN) wr.heap.size w3 hB3 5 (by omega))
      have hha3 := hide ((unhide hrel).ha.below hb3)
      have hlp3 : Hid (∀ D ∈ ds, w.heap.size < D ∧ D < w3.heap.size ∧ w3.heap[D]? = some (.deferred (some []))) := fun D hD => by
        have h := (unhide hrel).lp D hD
        have hlt := (Array.getElem?_eq_some_iff.1 h.2).1
        exact ⟨h.1, Nat.lt_of_lt_of_le hlt hb3.size, (hb3.block D hlt).trans h.2⟩
      have hz3 : w.heap.size < w3.heap.size := Nat.lt_of_lt_of_le (unhide HZ1) hb3.size
      have hpn : pathL s.data.toList = s.data.toList :: ups s.data.toList := by rw [pathL, if_pos (unhide HSN)]
      have hnd : (pathL s.data.toList).Nodup := by rw [hpn]; exact ups_is.once _
      have hple := path_len s.data.toList
      clear hw3 hb3 hB3
      gi_wp2_with fail
      refine range_up rfl (by omega) (gf := 165) (lb := #[.pointer (some ⟨wr.heap.size, 0, none⟩)]) rfl trivial enters31 (enc := encStr) (X := pathL s.data.toList) (unhide hseq) rfl
        (fun pre W => Ha w w.heap.size (6 * i + pre.length) (apP (fun _ => 0) (ks.map roK) i 1 pre) (Value.slice (some ⟨q, 0, none⟩) m cv) ks W ∧ ∀ D ∈ ds, W.heap[D]? = some (.deferred (some [])))
        ?own ?start (fun x => { tmps := #[Value.pointer (some { block := d, off := 0 }), undef, Value.slice none 0 0, Value.pointer (some { block := w.heap.size, off := 0 }), undef, Value.string s, encStr x, undef, undef, undef, Value.pointer (some { block := d, off := 0 }), Value.pointer (some { block := d, off := 0 }), Value.pointer (some { block := d, off := 0 }), Value.slice (some ⟨q, 0, none⟩) m cv, Value.int IntKind.i64 m, Value.int IntKind.i64 (i : Int), Value.bool true, Value.pointer (some ⟨q, i, none⟩), Value.string s, Value.string s, Value.func (.func 165) #[] #[.pointer (some ⟨wr.heap.size, 0, none⟩)], encStr x, v22, v23, v24, undef, undef, undef, undef, undef, undef, undef, undef, undef, undef, undef, undef, undef, undef, undef, undef, undef, undef, undef], defers := [] }) ?assign ?body ?done
      case own =>
        rintro pre W W' row ⟨h1, h4⟩ hg hr
        refine ⟨h1.turn hg (fun r e => ⟨by have := (hr r e).1; omega, (hr r e).2⟩), fun D hD => ?_⟩
        refine (hg.block D (Array.getElem?_eq_some_iff.1 (h4 D hD)).1 (fun e => ?_)).trans (h4 D hD)
        have h5 := (hr D e.symm).1
        have h6 := (unhide hlp3 D hD).2.1
        omega
      case start =>
        refine ⟨?_, fun D hD => (unhide hlp3 D hD).2.2⟩
        rw [apP_nil]
        exact unhide hha3
      case assign =>
        intro l x W K hK
        gi_wp2
        exact hK
      case body =>
        rintro l pre x W ⟨h1, h4⟩ hpx
        have hxn : x ∉ pre := by
          have hsub := (hpx.sublist.nodup hnd)
          rw [List.nodup_append] at hsub
          exact fun hm => hsub.2.2 x hm x (by simp) rfl
        have hxl : pre.length < 6 := by
          have := hpx.length_le
          simp at this
          omega
        have hxm : x ∈ pathL s.data.toList := hpx.subset (by simp)
        have hxs : x.length ≤ s.size := path_le s hxm
        obtain ⟨s2, hs⟩ : ∃ s : ByteArray, s = ⟨x.toArray⟩ := ⟨_, rfl⟩
        have hse : encStr x = .string s2 := by rw [hs]
        have hsl : s2.data.toList = x := by rw [hs]
        have hss : s2.size ≤ maxLen := by
          have e : s2.size = x.length := by rw [hs]; simp [ByteArray.size]
          have h5 := unhide HSSZ
          rw [e]
          unfold maxLen
          omega
        have dAdd := hide (h1.add (by unfold maxLen; have := unhide HLEN; have := unhide HM; omega) hss 1)
        have H4 := hide h4; have HSL2 := hide hsl; have HXN := hide hxn
        rw [hse]
        clear h1 h4 hsl hs hse hxl hxm hxs hxn hpx hss
        gi_wp2_with fail
        refine ⟨trivial, ?_⟩
        refine (callsIn_wide.2 (unhide dAdd)).mono ?_
        rintro e w5 ⟨⟨rv2, rfl⟩, hh5, hk⟩
        have HH5 := hide hh5; have HK := hide hk
        clear hh5 hk
        gi_wp2
        refine ⟨unhide HK, ?_, fun D hD => (unhide HK).same D _ (unhide H4 D hD) rfl⟩
        have h := unhide HH5
        rw [unhide HSL2, apP_step (fun _ => 0) (ks.map roK) i 1 pre (unhide HXN)] at h
        exact h
      case done =>
        intro D W hD hIX hWD
        obtain ⟨h1, h4⟩ := hIX
        have hmono : Ha w w.heap.size (6 * (i + 1)) (apG (fun _ => 0) (ks.map roK) (i + 1)) (Value.slice (some ⟨q, 0, none⟩) m cv) ks W := by
          have h2 := h1.mono (n' := 6 * (i + 1)) (by omega)
          have hiR : i < (ks.map roK).length := by simpa using hik
          have e1 : (ks.map roK)[i] = roK ks[i] := by simp
          have e2 := apP_all (fun _ => 0) (ks.map roK) i hiR
          rw [e1] at e2
          have e3 : (roK ks[i]).acc.data.toList = ks[i] := rfl
          rw [e3] at e2
          have e4 : (roK ks[i]).amt = 1 := rfl
          rw [e4] at e2
          rw [hpn, unhide HSL, e2] at h2
          exact h2
        have HI : Hid (StRel w (Value.slice (some ⟨q, 0, none⟩) m cv) ks (i + 1) (D :: ds) W) := by
          refine ⟨hmono, List.nodup_cons.2 ⟨fun hm => ?_, (unhide hrel).nd⟩, fun D' hD' => ?_⟩
          · have := (unhide hlp3 D hm).2.1
            omega
          · rcases List.mem_cons.1 hD' with rfl | hm
            · exact ⟨by omega, hWD⟩
            · exact ⟨(unhide hlp3 D' hm).1, h4 D' hm⟩
        clear h1 h4 hmono
        gi_wp2
        exact ⟨⟨_, _, _, _, _, _, _, _, _, _, _, i + 1, D :: ds, ⟨by omega, HI⟩, rfl⟩, by simp [intOf]; omega⟩
    · have him : i = m := by omega
      subst him
      dsimp only
      obtain ⟨moH, hha, hbw, hrow0⟩ := (unhide hrel).ha
      have dR2 := hide (risingI_any w.heap.size 0 (6 * i) (by omega) moH _ wr hha.c0 hha.map)
      have hz1 : w.heap.size < wr.heap.size := hha.lt _ (.inl rfl)
      have HBW := hide hbw
      have hnd1 := (unhide hrel).nd
      have hlp1 := (unhide hrel).lp
      have hin0 : Hid (i ≤ n) := by have h1 := unhide HLEN; rw [← unhide HM] at h1; exact h1
      clear hha hbw hrow0 hrel
      gi_wp2_with fail
      refine ⟨trivial, ?_⟩
      refine (callsIn_wide.2 (unhide dR2)).mono ?_
      rintro e w2 ⟨v2, s2, rfl, hnd2, hmem2, hml2, hlen2, hrow2, hb2⟩
      obtain ⟨hs, hhs⟩ : ∃ hs, hs = srt s2 := ⟨_, rfl⟩
      have hhl : hs.length = s2.length := by rw [hhs, srt_len]
      rw [← hhs, ← hhl] at hrow2
      have hml' : Hid (∀ i (hi : i < hs.length), hs[i].length ≤ maxLen) := fun i hi => hml2 _ (srt_mem.1 (by rw [← hhs]; exact List.getElem_mem hi))
      have hheld : Hid (∀ k, k ∈ s2 ↔ ∃ x, f x ≠ 0 ∧ k ∈ x :: ups x) := fun k => by
        rw [hmem2 k]
        have e0 : apG (fun _ => 0) (ks.map roK) i k = IntKind.i64.wrap (roll ups (rws (ks.map roK)) k) := by
          unfold apG
          rw [List.take_of_length_le (by rw [List.length_map, ← unhide HM]; omega)]
          simp
        have hb := cnt_bd ks k
        have hkl : ks.length ≤ 68719476736 := by rw [← unhide HM]; exact hm36
        rw [e0, cnt_sum, show IntKind.i64.wrap (sm (fun x => if k ∈ x :: ups x then (1 : Int) else 0) ks) = sm (fun x => if k ∈ x :: ups x then (1 : Int) else 0) ks from by rw [IntKind.wrap_i64]; omega, hb.2.2]
        exact ⟨fun ⟨x, hx, hk⟩ => ⟨x, (unhide HKM x).1 hx, hk⟩, fun ⟨x, hx, hk⟩ => ⟨x, (unhide HKM x).2 hx, hk⟩⟩
      have hB2 : Below w.heap.size w w2 := (unhide HBW).trans (hb2.mono (by omega))
      have hS2 := (unhide HS).below hB2
      have hz2 : wr.heap.size ≤ w2.heap.size := hb2.size
      have hl6 : s2.length ≤ 6 * n := by have := unhide hin0; omega
      obtain ⟨m2, hm2⟩ : ∃ m, m = hs.length := ⟨_, rfl⟩
      obtain ⟨pv2, cv2, hv2⟩ : ∃ pv cv, v2 = .slice pv m2 cv := by
        rw [hm2]
        rcases hrow2.2 with ⟨e, h2⟩ | ⟨g, cap, cur, e, _⟩
        · exact ⟨none, 0, by rw [e, h2]⟩
        · exact ⟨_, _, e⟩
      have hm2b : m2 ≤ 412316860416 := by rw [hm2, hhl]; omega
      have hlpd : Hid (∀ D ∈ ds, w.heap.size ≤ D ∧ D < w2.heap.size ∧ w2.heap[D]? = some (.deferred (some []))) := fun D hD => by
        have h := hlp1 D hD
        have hlt := (Array.getElem?_eq_some_iff.1 h.2).1
        exact ⟨Nat.le_of_lt h.1, Nat.lt_of_lt_of_le hlt hb2.size, (hb2.block D hlt).trans h.2⟩
      have HND2 := hide hnd2; have HHS := hide hhs; have HHL := hide hhl; have HROW2 := hide hrow2; have HB2 := hide hB2; have HS2 := hide hS2; have HM2 := hide hm2; have HZ := hide (And.intro hz1 hz2); have HL6 := hide hl6; have HND1 := hide hnd1
      clear hnd2 hmem2 hml2 hlen2 hrow2 hb2 hhs hhl hB2 hS2 hm2 dR2 hz1 hz2 hl6 hnd1 hlp1 HBW
      subst hv2
      gi_wp2_with fail
      refine wpIn_loop (fun b' w' => ∃ x7 x9 x28 x29 x30 x31 x32 x33 x34 x35 x36 x37 x38 x39 x40 x41 x42 : Value, ∃ (i2 : Nat), (i2 ≤ m2 ∧ Hid (w'.ownsRow w2.heap.size 38 3 x7 i2 (balC f g (hs.take i2)) ∧ Below w2.heap.size w2 w')) ∧ b' = { tmps := #[Value.pointer (some { block := d, off := 0 }), undef, Value.slice none 0 0, Value.pointer (some { block := w.heap.size, off := 0 }), undef, v5, v6, x7, undef, x9, Value.pointer (some { block := d, off := 0 }), Value.pointer (some { block := d, off := 0 }), Value.pointer (some { block := d, off := 0 }), Value.slice pv i cv, Value.int IntKind.i64 i, Value.int IntKind.i64 i, Value.bool false, v17, v18, v19, v20, v21, v22, v23, v24, Value.slice pv2 m2 cv2, Value.int IntKind.i64 m2, Value.int IntKind.i64 (i2 : Int), x28, x29, x30, x31, x32, x33, x34, x35, x36, x37, x38, x39, x40, x41, x42, undef], defers := ds.map mk8 }) (fun b' _ => m2 - (intOf (b'.tmps.getD 27 undef)).toNat) ?_ ?_
      · exact ⟨Value.slice none 0 0, undef, undef, undef, undef, undef, undef, undef, undef, undef, undef, undef, undef, undef, undef, undef, undef, 0, ⟨by omega, ⟨World.ownsRow_nil _ _ _ _, Below.refl _ _⟩⟩, rfl⟩
      · rintro b' wx ⟨x7, x9, x28, x29, x30, x31, x32, x33, x34, x35, x36, x37, x38, x39, x40, x41, x42, i2, ⟨hi2, hrel2⟩, rfl⟩
        by_cases hlt2 : i2 < m2
        · have hi2k : i2 < hs.length := by rw [← unhide HM2]; exact hlt2
          obtain ⟨hrx, hbx⟩ := unhide hrel2
          have hrow2 := row_keep (unhide HROW2) (fun g hg => hbx.block g (row_block (unhide HROW2) hg).2.1)
          obtain ⟨q, cq, hq, hcell⟩ := row_get hrow2 hi2k
          have hpv : pv2 = some ⟨q, 0, none⟩ := by injection hq
          subst hpv
          clear hq
          obtain ⟨s, hsv⟩ : ∃ s : ByteArray, s = ⟨(hs[i2]).toArray⟩ := ⟨_, rfl⟩
          have hse : encStr hs[i2] = .string s := by rw [hsv]
          have hsl : s.data.toList = hs[i2] := by rw [hsv]
          rw [hse] at hcell
          have hss : s.size ≤ maxLen := by
            have e : s.size = (hs[i2]).length := by rw [hsv]; simp [ByteArray.size]
            rw [e]
            exact unhide hml' i2 hi2k
          have hSx := (unhide HS2).below hbx
          have dO := hide (own_any s hss d mo mr n f g a c wx hSx)
          have dR := hide (roll_any s hss d mo mr n f g a c wx hSx)
          obtain ⟨F, hF⟩ : ∃ F, F = f s.data.toList := ⟨_, rfl⟩
          obtain ⟨G, hG⟩ : ∃ F, F = g s.data.toList := ⟨_, rfl⟩
          rw [← hF] at dO
          rw [← hG] at dR
          obtain ⟨i0, hi0, hz0, hz1, hz2⟩ := info_parts info47
          have hbl : (hs.take i2).length = i2 := by rw [List.length_take]; omega
          have HI := hide hi0; have HZ0 := hide hz0; have HZ1 := hide hz1; have HZ2 := hide hz2
          have HRA := hide (hrx.alloc (.cells #[.string s, .int .i64 F, .int .i64 G] 38))
          have hzA : Hid (w2.heap.size ≤ (wx.alloc (.cells #[.string s, .int .i64 F, .int .i64 G] 38)).heap.size) := by show _ ≤ _; rw [World.size_alloc]; have := hbx.size; omega
          have hnw : Hid (∀ j u, ([.string s, .int .i64 F, .int .i64 G] : List Value)[j]? = some u → (wx.alloc (.cells #[.string s, .int .i64 F, .int .i64 G] 38)).cell? ((⟨wx.heap.size, 0, none⟩ : Addr).add j) = some u) := fun j u hu => by
            rw [Addr.add_mid, Nat.zero_add, World.cell?_alloc_mark]
            simpa using hu
          have hone : Hid (∀ u ∈ ([.string s, .int .i64 F, .int .i64 G] : List Value), u.oneCell' = true) := fun u hu => by
            simp at hu
            rcases hu with rfl | rfl | rfl <;> rfl
          have hl1 : Hid (i2 + 1 ≤ maxLen) := by show _ ≤ _; unfold maxLen; omega
          have hl2 : Hid ((i2 + 1) * 32 ≤ 140737488355328) := by show _ ≤ _; omega
          have hupd : Hid (∀ v' W', W'.ownsRow w2.heap.size 38 3 v' (i2 + 1) (balC f g (hs.take i2) ++ [.string s, .int .i64 F, .int .i64 G]) → (wx.alloc (.cells #[.string s, .int .i64 F, .int .i64 G] 38)).grownBy W' x7.ownBlock → W'.ownsRow w2.heap.size 38 3 v' (i2 + 1) (balC f g (hs.take (i2 + 1))) ∧ Below w2.heap.size w2 W') := fun v' W' ho hg => by
            refine ⟨?_, hbx.trans ⟨hg.os, hg.tape, hg.output, Nat.le_trans (by rw [World.size_alloc]; omega) hg.size, fun k hk => ?_⟩⟩
            · rw [take_snoc hs i2 hi2k, balC_snoc, hse, ← hsl, ← hF, ← hG]
              exact ho
            · have hks : k < wx.heap.size := Nat.lt_of_lt_of_le hk hbx.size
              refine (hg.block k (by rw [World.size_alloc]; omega) (fun e => ?_)).trans (Below.heap_alloc _ _ k hks)
              have := (row_block hrx e.symm).1
              omega
          clear hse hsv hsl hss hSx hF hG hi0 hz0 hz1 hz2 hbl hrow2 hrx hbx
          dsimp only
          gi_wp2_with fail
          refine ⟨trivial, (callsIn_wide.2 (unhide dO)).mono ?_⟩
          rintro e w5 ⟨rfl, hw⟩
          rw [hw]
          clear hw w5
          gi_wp2_with fail
          refine ⟨trivial, (callsIn_wide.2 (unhide dR)).mono ?_⟩
          rintro e w5 ⟨rfl, hw⟩
          rw [hw]
          clear hw w5
          gi_wp2_with (gi_at_builtin; refine wpListIn_append_own_at _ rfl _ _ 22 rfl w2.heap.size 38 i0 (.agg #[.string ⟨#[]⟩, .int .i64 0, .int .i64 0]) 3 32 Tryz.underlying22 (unhide HI) (unhide HZ0) (unhide HZ1) (unhide HZ2) rfl (by decide) x7 i2 _ rfl (unhide HRA) ⟨wx.heap.size, 0, none⟩ 1 1 [.string s, .int .i64 F, .int .i64 G] rfl rfl (unhide hnw) (unhide hone) (unhide hl1) (unhide hl2) (unhide hzA) ?_; intro v' W' hown' hgrow hnil hloc; have HU := hide (unhide hupd v' W' hown' hgrow); clear hown' hgrow hnil hloc)
          exact ⟨⟨_, _, _, _, _, _, _, _, _, _, _, _, _, _, _, _, _, i2 + 1, ⟨by omega, unhide HU⟩, rfl⟩, by simp [intOf]; omega⟩
        · have him2 : i2 = m2 := by omega
          subst him2
          obtain ⟨hrx, hbx⟩ := unhide hrel2
          rw [List.take_of_length_le (by rw [← unhide HM2]; omega)] at hrx
          have hzz := unhide HZ
          have hfin : w.heap.size ≤ w2.heap.size := by omega
          have hBx : Below w.heap.size w wx := (unhide HB2).trans (hbx.mono hfin)
          dsimp only
          gi_wp2
          refine leaves_all (B := w.heap.size) (I := fun _ W => W.ownsRow w.heap.size 38 3 x7 i2 (balC f g hs) ∧ Below w.heap.size w W) (fun W => results_tmp rfl _ _ _) ?_ (fun W hW => ?_) ds _ ⟨row_up hrx hfin, hBx⟩ (unhide HND1) (fun D hD => ⟨(unhide hlpd D hD).1, (hbx.block D (unhide hlpd D hD).2.1).trans (unhide hlpd D hD).2.2⟩)
          · rintro _ W W' row ⟨h1, h2⟩ hg hr
            refine ⟨row_keep h1 (fun g hg' => hg.block g (row_block h1 hg').2.1 (fun e => ?_)), h2.trans ⟨hg.os, hg.tape, hg.output, hg.size, fun k hk => hg.block k (Nat.lt_of_lt_of_le hk h2.size) (fun e => ?_)⟩⟩
            · obtain ⟨_, o, ho, hl⟩ := hr g e.symm
              obtain ⟨_, _, o', ho', hc⟩ := row_block h1 hg'
              rw [ho] at ho'
              cases ho'
              cases o <;> simp_all [lpy, Obj.isCells]
            · have := (hr k e.symm).1
              omega
          · refine ⟨x7, s2, rfl, unhide HND2, unhide hheld, unhide HL6, ?_, hW.2⟩
            rw [← unhide HHS, ← unhide HHL, ← unhide HM2]
            exact hW.1
end Go.Proofs.YtpeefmbdhkfhmaaGreatDoor
