import Derived.Test.YtpeohbkigkfcgaaGreatDoorGAC
import Derived.Laws.BytesArg
set_option linter.unusedVariables false
set_option linter.unusedSimpArgs false
set_option maxRecDepth 100000
set_option maxHeartbeats 16000000
namespace Go.Proofs.YtpeohbkigkfcgaaGreatDoor
open Go Go.Shelf Go.ChangeShapes Go.WideShapes Go.ChangeAt Go.RowKit Go.Maps Go.Sort
theorem info70 : (Tryz.prog.info? 82).map (fun i => (i.zero, i.size, i.bytes)) = some (some (.agg #[.string ⟨#[]⟩, .slice none 0 0, .int .i64 0]), 3, 48) := by kernel_rfl
structure StW (w3 W : World) (B : Nat) (K : Dk) (j : Nat) (v : Value) : Prop where
 os : W.os = w3.os
 tape : W.tape = w3.tape
 output : W.output = w3.output
 size : w3.heap.size <= W.heap.size
 block : ∀ q, q < w3.heap.size -> q ≠ B -> W.heap[q]? = w3.heap[q]?
 own : W.heap[B]? = some (.cells #[.int .i64 K.cap, v, .int .i64 K.fuse, .bool K.down] 59)
 fr : FilesRow W w3.heap.size W.heap.size v (K.A.take j)
theorem StW.below {w w3 W : World} {B j : Nat} {K : Dk} {v : Value} (h : StW w3 W B K j v) (hb : Below w.heap.size w w3) (hB : w.heap.size <= B) : Below w.heap.size w W :=
 ⟨h.os.trans hb.os, h.tape.trans hb.tape, h.output.trans hb.output, Nat.le_trans hb.size h.size, fun k hk => (h.block k (Nat.lt_of_lt_of_le hk hb.size) (by omega)).trans (hb.block k hk)⟩
theorem cell_of_own {W : World} {B : Nat} {cs : Array Value} {t : TypeId} (h : W.heap[B]? = some (.cells cs t)) (j : Nat) : W.cell? ⟨B, j, none⟩ = cs[j]? := by
 unfold World.cell?
 simp only [h]
 rfl
theorem frozen_of_own {W : World} {B : Nat} {cs : Array Value} {t : TypeId} (h : W.heap[B]? = some (.cells cs t)) (j : Nat) : W.frozen? ⟨B, j, none⟩ = false := by
 unfold World.frozen?
 simp [h]
theorem ret_state {tmps : Array Value} {w : World} {b : Nat} {a1 a3 : Int} {p : Option Addr} {m c : Nat} {a4 : Bool} (hp : tmps[2]?.getD undef = .pointer (some ⟨b, 0, none⟩)) (h0 : w.cell? ⟨b, 0, none⟩ = some (.int .i64 a1)) (h1 : w.cell? ⟨b, 1, none⟩ = some (.slice p m c)) (h2 : w.cell? ⟨b, 2, none⟩ = some (.int .i64 a3)) (h3 : w.cell? ⟨b, 3, none⟩ = some (.bool a4)) :
  (results Tryz.f12 tmps).run Tryz.prog w = .ok (.agg #[.int .i64 a1, .slice p m c, .int .i64 a3, .bool a4]) w := by
 simp [results, hp, asAddr, go_sem, h0, h1, h2, h3]
theorem own_set {W : World} {B : Nat} {a b c v v' : Value} {t : TypeId} (h : W.heap[B]? = some (.cells #[a, v, b, c] t)) : (W.setCell ⟨B, 1, none⟩ v').heap[B]? = some (.cells #[a, v', b, c] t) := by
 have := Go.heap_setCell_same W B 1 #[a, v, b, c] t v' h
 simpa using this
theorem own_far {w w' : World} {row : Option Nat} (hg : w.grownBy w' row) {q : Nat} (hq : q < w.heap.size) (hne : ∀ r, row = some r -> q ≠ r) : w'.heap[q]? = w.heap[q]? := hg.block q hq (fun e => hne q e.symm rfl)
theorem StW.step {w3 wr w5 w6 : World} {B j : Nat} {K : Dk} {v v' : Value} {o o6 : Obj} {xs : List Value} (h : StW w3 wr B K j v) (hBl : B < w3.heap.size) (hrow : wr.ownsRow w3.heap.size 82 3 v j xs) (hsc : StCells wr w3.heap.size wr.heap.size (K.A.take j) xs) {k : List UInt8} {x : Fl} (hkx : K.A[j]? = some (k, x))
  (hb5 : Below (wr.alloc o).heap.size (wr.alloc o) w5) {p2 : Option Addr} {c2 : Nat} (r5 : w5.ownsRow (wr.alloc o).heap.size 5 1 (.slice p2 x.bs.length c2) x.bs.length (bcs x.bs)) (hgr : (w5.alloc o6).grownBy w6 v.ownBlock) (hown6 : w6.ownsRow w3.heap.size 82 3 v' (j + 1) (xs ++ [encStr k, .slice p2 x.bs.length c2, .int .i64 (x.sy : Int)])) :
  StW w3 (w6.setCell ⟨B, 1, none⟩ v') B K (j + 1) v' := by
 have hz4 : (wr.alloc o).heap.size = wr.heap.size + 1 := World.size_alloc _ _
 have hz5 := hb5.size
 have hz6 := hgr.size
 rw [World.size_alloc] at hz6
 have hz3 := h.size
 have hvb : ∀ r, v.ownBlock = some r -> w3.heap.size <= r /\ r < wr.heap.size := fun r hr => hrow.lt r hr
 have k6 : ∀ q, q < w5.heap.size -> (∀ r, v.ownBlock = some r -> q ≠ r) -> w6.heap[q]? = w5.heap[q]? := fun q hq hne => (own_far hgr (by rw [World.size_alloc]; omega) hne).trans (Below.heap_alloc _ _ _ hq)
 have k5 : ∀ q, q < wr.heap.size -> w5.heap[q]? = wr.heap[q]? := fun q hq => (hb5.block q (by omega)).trans (Below.heap_alloc _ _ _ hq)
 have hlen : (K.A.take (j + 1)).length = j + 1 := by
  have : j < K.A.length := by
   rw [List.getElem?_eq_some_iff] at hkx
   exact hkx.1
  rw [List.length_take]; omega
 have htake : K.A.take (j + 1) = K.A.take j ++ [(k, x)] := by rw [List.take_add_one, hkx]; rfl
 have hsz : (w6.setCell ⟨B, 1, none⟩ v').heap.size = w6.heap.size := by simp
 have k7 : ∀ q, q ≠ B -> (w6.setCell ⟨B, 1, none⟩ v').heap[q]? = w6.heap[q]? := fun q hq => Below.heap_setCell _ ⟨B, 1, none⟩ _ q hq
 have hp1 : StCells w6 w3.heap.size wr.heap.size (K.A.take j) xs := hsc.far (fun q h1 h2 h3 => by
  rw [k6 q (by omega) (fun r hr e => ?_), k5 q h2]
  obtain ⟨cur, hcur⟩ := h3
  subst e
  rcases hrow.2 with ⟨h4, _⟩ | ⟨g, cap, cur', h4, _, h5, _⟩
  ·rw [h4] at hr; cases hr
  ·rw [h4] at hr
   simp only [Value.ownBlock, Option.some.injEq] at hr
   subst hr
   rw [hcur] at h5
   injection h5 with h5
   injection h5 with _ h5 _
   cases h5)
 have hp2 : StCells w6 wr.heap.size w6.heap.size [(k, x)] [encStr k, .slice p2 x.bs.length c2, .int .i64 (x.sy : Int)] := by
  refine .cons (m := w5.heap.size) (row_base (row_far r5 (fun q hq => k6 q (r5.lt q hq).2 (fun r hr e => ?_))) (by omega)) (fun q hq => (r5.lt q hq).2) (by omega) (.nil (by omega))
  have h1 := (r5.lt q hq).1
  have h2 := (hvb r hr).2
  omega
 refine ⟨?_, ?_, ?_, ?_, ?_, ?_, ?_⟩
 ·exact hgr.os.trans (hb5.os.trans h.os)
 ·exact hgr.tape.trans (hb5.tape.trans h.tape)
 ·exact hgr.output.trans (hb5.output.trans h.output)
 ·rw [hsz]; omega
 ·intro q hq hne
  rw [k7 q hne, k6 q (by omega) (fun r hr e => by have := (hvb r hr).1; omega), k5 q (by omega)]
  exact h.block q hq hne
 ·have h6 : w6.heap[B]? = some (.cells #[.int .i64 K.cap, v, .int .i64 K.fuse, .bool K.down] 59) := by
   rw [k6 B (by omega) (fun r hr e => by have := (hvb r hr).1; omega), k5 B (by omega)]
   exact h.own
  exact own_set h6
 ·refine ⟨xs ++ [encStr k, .slice p2 x.bs.length c2, .int .i64 (x.sy : Int)], ?_, ?_⟩
  ·rw [hlen]
   exact row_far hown6 (fun q hq => k7 q (by have := (hown6.lt q hq).1; omega))
  ·rw [htake, hsz]
   exact (hp1.append hp2).far (fun q h1 h2 h3 => k7 q (by omega))
theorem one3 (s : ByteArray) (p : Option Addr) (m c : Nat) (y : Int) : ∀ u ∈ [Value.string s, .slice p m c, .int .i64 y], u.oneCell' = true := by
 intro u hu
 simp only [List.mem_cons, List.not_mem_nil, or_false] at hu
 rcases hu with rfl | rfl | rfl <;> rfl
theorem nameS_size {s : ByteArray} (h : nameS s = true) : s.size <= 40 := by
 simp only [nameS, Bool.and_eq_true, decide_eq_true_eq] at h
 exact h.1.2
theorem StW.form {w3 W : World} {B j : Nat} {K : Dk} {v : Value} (h : StW w3 W B K j v) (hj : j <= K.A.length) : ∃ p c, v = .slice p j c := by
 obtain ⟨xs, hr, _⟩ := h.fr
 rw [List.length_take, Nat.min_eq_left hj] at hr
 rcases hr.2 with ⟨h1, h2⟩ | ⟨g, cap, cur, h1, _⟩
 ·exact ⟨none, 0, by rw [h1, h2]⟩
 ·exact ⟨_, _, h1⟩
theorem state_ok {w : World} {d N n : Nat} {K : Dk} {S : Nat -> Prop} {mo : Option Nat} {es : List (Lit × DataW Value)} (h : DiskIs w d N K S mo n es) (hI : Inv K) :
  Calls Tryz.prog 12 #[.pointer (some ⟨d, 0, none⟩)] w fun e w' => (∃ v, e = .returned (.agg #[.int .i64 K.cap, v, .int .i64 K.fuse, .bool K.down]) /\ ∃ b, w.heap.size <= b /\ FilesRow w' b w'.heap.size v K.A) /\ Below w.heap.size w w' := by
 have HD := hide h
 have hdl := h.at'.lt
 have c0 := h.at'.c0
 have c2 := h.at'.c2
 have c3 := h.at'.c3
 have HI := hide hI
 have hAl := hI.many
 obtain ⟨L, hL⟩ : ∃ L, L = K.A.length := ⟨_, rfl⟩
 rw [<- hL] at hAl
 have HL := hide hL
 clear h hI hL
 go_enter Tryz.func12, Tryz.ntmps12
 go_wp2_with fail
 go_region
 obtain ⟨w2, hw2⟩ : ∃ w2, w2 = ((w.alloc (.cells #[.int .i64 0, .slice none 0 0, .int .i64 0, .bool false] 59)).alloc (.cells #[.int .i64 K.cap, .slice none 0 0, .int .i64 K.fuse, .bool K.down] 59)).drew := ⟨_, rfl⟩
 have B2 : Hid (Below w.heap.size w w2) := by rw [hw2]; exact below_drewN (bal (bal (Below.refl w.heap.size w) _) _) 1
 have hz2 : w2.heap.size = w.heap.size + 1 + 1 := by rw [hw2]; simp
 have hB0 : Hid (w2.heap[w.heap.size + 1]? = some (.cells #[.int .i64 K.cap, .slice none 0 0, .int .i64 K.fuse, .bool K.down] 59)) := by
  rw [hw2]
  have := heap_alloc_new (w.alloc (.cells #[.int .i64 0, .slice none 0 0, .int .i64 0, .bool false] 59)) (.cells #[.int .i64 K.cap, .slice none 0 0, .int .i64 K.fuse, .bool K.down] 59)
  rw [World.size_alloc] at this
  exact this
 have hR0 : Hid (w2.heap[w.heap.size]? = some (.cells #[.int .i64 0, .slice none 0 0, .int .i64 0, .bool false] 59)) := by
  rw [hw2]
  have h1 := heap_alloc_new w (.cells #[.int .i64 0, .slice none 0 0, .int .i64 0, .bool false] 59)
  exact (Below.heap_alloc _ _ _ (by rw [World.size_alloc]; omega)).trans h1
 rw [<- hw2]
 clear hw2 c0 c2 c3
 go_wp2_with fail
 refine (names_ok ((uh HD).below (uh B2)) (uh HI).ord (by rw [<- uh HL]; exact hAl)).mono ?_
 rintro e w3 ⟨v0, rfl, hrow, hb3⟩
 rw [<- uh HL] at hrow
 have B3 : Hid (Below w.heap.size w w3) := (uh B2).trans (hb3.mono (by omega))
 have hz3 : w2.heap.size <= w3.heap.size := hb3.size
 have hv0 : ∃ p0 c0, v0 = .slice p0 L c0 := by
  rcases hrow.2 with ⟨h1, h2⟩ | ⟨g, cap, cur, h1, _⟩
  ·exact ⟨none, 0, by rw [h1, h2]⟩
  ·exact ⟨_, _, h1⟩
 obtain ⟨p0, c0, rfl⟩ := hv0
 have HROW := hide hrow
 have S0 : Hid (StW w3 w3 (w.heap.size + 1) K 0 (.slice none 0 0)) := ⟨rfl, rfl, rfl, Nat.le_refl _, fun _ _ _ => rfl, (hb3.block _ (by omega)).trans (uh hB0), ⟨[], by rw [List.take_zero]; exact World.ownsRow_nil _ _ _ _, by rw [List.take_zero]; exact .nil (Nat.le_refl _)⟩⟩
 have hR3 : Hid (w3.heap[w.heap.size]? = some (.cells #[.int .i64 0, .slice none 0 0, .int .i64 0, .bool false] 59)) := (hb3.block _ (by omega)).trans (uh hR0)
 clear hrow hb3 hB0 hR0
 go_wp2_with fail
 go_loopw [23] (fun u wr => ∃ (j : Nat) (v : Value), j <= L /\ u = .int .i64 (j : Int) /\ StW w3 wr (w.heap.size + 1) K j v) (fun u _ => L - (intOf u).toNat)
 case atStart => exact ⟨0, _, Nat.zero_le _, rfl, uh S0⟩
 case round =>
  obtain ⟨j, v, hj, rfl, hst⟩ := hrel
  obtain ⟨pv, cv, rfl⟩ := hst.form (by rw [<- uh HL]; exact hj)
  have HS := hide hst
  by_cases hlt : j < L
  ·have hkx : ∃ k x, K.A[j]? = some (k, x) := by
    have : j < K.A.length := by rw [<- uh HL]; exact hlt
    exact ⟨_, _, List.getElem?_eq_getElem this⟩
   obtain ⟨k, x, hkx⟩ := hkx
   have hget := get_at (uh HI).ord hkx
   have hB4 := hst.below (uh B3) (by omega)
   have hDr := (uh HD).below hB4
   have hx1 := get_le_tot hget
   have hx2 := (uh HI).tot
   have hx3 := (uh HI).cap1
   have hxl : x.bs.length <= 1048576 := by omega
   have hnm := (uh HI).nm _ (get_mem hget)
   obtain ⟨s, hs⟩ : ∃ s : ByteArray, s = ⟨k.toArray⟩ := ⟨_, rfl⟩
   have hsk : s.data.toList = k := by rw [hs]
   have hes : encStr k = .string s := by rw [hs]
   rw [<- hs] at hnm
   have hsl : s.size <= maxLen := by have := nameS_size hnm; unfold maxLen; omega
   cases mo with
   | none =>
    exfalso
    rcases hDr.at'.files with ⟨_, h2⟩ | ⟨b, h1, _⟩
    ·injection h2 with h2
     have := hDr.fs.all.len
     rw [h2] at this
     have : K.A = [] := List.eq_nil_of_length_eq_zero this.symm
     rw [this] at hkx
     simp at hkx
    ·cases h1
   | some b =>
    rw [<- hsk] at hget
    obtain ⟨p, c, lk, hh⟩ := look_file hDr hsl hget
    have HH := hide hh
    have cd1 := hDr.at'.c1
    have HDR := hide hDr
    have hp0 : ∃ g, p0 = some ⟨g, 0, none⟩ /\ w2.heap.size <= g /\ g < w3.heap.size /\ w3.cell? ⟨g, j, none⟩ = some (.string s) := by
     have hr := uh HROW
     rcases hr.2 with ⟨h1, h2⟩ | ⟨g, cap, cur, h1, h2, h3, _⟩
     ·omega
     ·injection h1 with h1 _ h1c
      subst h1 h1c
      refine ⟨g, rfl, h2, (hr.lt g rfl).2, ?_⟩
      have := hr.cells (g := g) rfl j (.string s) (by rw [List.getElem?_map, List.getElem?_map, hkx]; exact congrArg some hes)
      rw [Addr.add_mid, Nat.zero_add] at this
      exact this
    obtain ⟨g, rfl, hg1, hg2, hg3⟩ := hp0
    have cg : wr.cell? ⟨g, j, none⟩ = some (.string s) := (World.cell?_of_block (a := ⟨g, j, none⟩) (hst.block g hg2 (by omega))).trans hg3
    have hjw : IntKind.i64.wrap ((j : Int) + 1) = (j : Int) + 1 := by rw [IntKind.wrap_i64]; omega
    have HK := hide hkx; have HES := hide hes
    have i0 : (0 : Int) <= (j : Int) := by omega
    have i1 : (j : Int) < (L : Int) := by omega
    have hBl : w.heap.size + 1 < w3.heap.size := by omega
    obtain ⟨xs, hrow, hsc⟩ := hst.fr
    rw [List.length_take, Nat.min_eq_left (by rw [<- uh HL]; exact hj)] at hrow
    have hvb : ∀ r, (Value.slice pv j cv).ownBlock = some r -> w3.heap.size <= r /\ r < wr.heap.size := fun r hr => hrow.lt r hr
    have hwr := hst.size
    have HROWF := hide hrow; have HSC := hide hsc; have HVB := hide hvb
    obtain ⟨w4, hw4⟩ : ∃ w4, w4 = wr.alloc (.cells #[.slice p x.bs.length c, .int .i64 (x.sy : Int)] 88) := ⟨_, rfl⟩
    have hz4 : w4.heap.size = wr.heap.size + 1 := by rw [hw4]; simp
    have b4 : Below wr.heap.size wr w4 := by rw [hw4]; exact bal (Below.refl _ _) _
    have kf0 : w4.cell? ⟨wr.heap.size, 0, none⟩ = some (.slice p x.bs.length c) := by rw [hw4]; simp
    have kf1 : w4.cell? ⟨wr.heap.size, 1, none⟩ = some (.int .i64 (x.sy : Int)) := by rw [hw4]; simp
    have own4 := (b4.block (w.heap.size + 1) (by omega)).trans hst.own
    have kB : w4.cell? ⟨w.heap.size + 1, 1, none⟩ = some (.slice pv j cv) := cell_of_own own4 1
    have fB : w4.frozen? ⟨w.heap.size + 1, 1, none⟩ = false := frozen_of_own own4 1
    have HCL := hide (clone_ok (w := w4.drew) p c x.bs ((BytesAt.of_row (own_below hh.row b4)).far (fun _ _ => rfl)) hxl)
    have H5 : Hid (∀ w5, Below w4.heap.size w4 w5 -> (w5.cell? ⟨wr.heap.size, 0, none⟩ = some (.slice p x.bs.length c) /\ w5.cell? ⟨wr.heap.size, 1, none⟩ = some (.int .i64 (x.sy : Int)) /\ w5.cell? ⟨w.heap.size + 1, 1, none⟩ = some (.slice pv j cv) /\ w5.frozen? ⟨w.heap.size + 1, 1, none⟩ = false)) := fun w5 hb => ⟨keep1 hb (by omega) kf0, keep1 hb (by omega) kf1, keep1 hb (by omega) kB, keepF hb (by omega) fB⟩
    have H6 : Hid (∀ w5 o6 w6, Below w4.heap.size w4 w5 -> (w5.alloc o6).grownBy w6 (Value.slice pv j cv).ownBlock -> (w6.cell? ⟨wr.heap.size, 0, none⟩ = some (.slice p x.bs.length c) /\ w6.cell? ⟨wr.heap.size, 1, none⟩ = some (.int .i64 (x.sy : Int)) /\ w6.cell? ⟨w.heap.size + 1, 1, none⟩ = some (.slice pv j cv) /\ w6.frozen? ⟨w.heap.size + 1, 1, none⟩ = false)) := fun w5 o6 w6 hb hg => by
     have h5 := hb.size
     have e1 : w6.heap[wr.heap.size]? = w4.heap[wr.heap.size]? := (own_far hg (by rw [World.size_alloc]; omega) (fun r hr => by have := (hvb r hr).2; omega)).trans ((Below.heap_alloc _ _ _ (by omega)).trans (hb.block _ (by omega)))
     have e2 : w6.heap[w.heap.size + 1]? = w4.heap[w.heap.size + 1]? := (own_far hg (by rw [World.size_alloc]; omega) (fun r hr => by have := (hvb r hr).1; omega)).trans ((Below.heap_alloc _ _ _ (by omega)).trans (hb.block _ (by omega)))
     exact ⟨(World.cell?_of_block (a := ⟨wr.heap.size, 0, none⟩) e1).trans kf0, (World.cell?_of_block (a := ⟨wr.heap.size, 1, none⟩) e1).trans kf1, (World.cell?_of_block (a := ⟨w.heap.size + 1, 1, none⟩) e2).trans kB, (World.frozen?_of_block (a := ⟨w.heap.size + 1, 1, none⟩) e2).trans fB⟩
    have HO5 : Hid (∀ w5 o6, Below w4.heap.size w4 w5 -> (w5.alloc o6).ownsRow w3.heap.size 82 3 (.slice pv j cv) j xs) := fun w5 o6 hb => row_far hrow (fun q hq => by
     have h2 := (hvb q hq).2
     have h5 := hb.size
     exact (Below.heap_alloc _ _ _ (by omega)).trans ((hb.block _ (by omega)).trans (b4.block _ (by omega))))
    obtain ⟨i70, hi70, hz70, hs70, hb70⟩ := info_parts info70
    have HI70 := hide hi70; have HZ70 := hide hz70; have HS70 := hide hs70; have HB70 := hide hb70
    have H4 := hide hw4
    have HSTEP : Hid (∀ w5 o6 w6 p2 c2 v', Below w4.heap.size w4 w5 -> w5.ownsRow w4.heap.size 5 1 (.slice p2 x.bs.length c2) x.bs.length (bcs x.bs) -> (w5.alloc o6).grownBy w6 (Value.slice pv j cv).ownBlock -> w6.ownsRow w3.heap.size 82 3 v' (j + 1) (xs ++ [.string s, .slice p2 x.bs.length c2, .int .i64 (x.sy : Int)]) -> StW w3 (w6.setCell ⟨w.heap.size + 1, 1, none⟩ v') (w.heap.size + 1) K (j + 1) v') := by
     intro w5 o6 w6 p2 c2 v' h1 h2 h3 h4
     rw [hw4] at h1 h2
     rw [<- hes] at h4
     exact hst.step hBl hrow hsc hkx h1 h2 h3 h4
    clear hst hB4 hDr hx1 hx2 hx3 hs hsk hes hget hh hkx hg3 hnm hrow hsc hvb own4 hi70 hz70 hs70 hb70 b4
    clear hw4
    go_wp2_with fail
    rw [<- uh H4]
    go_region_law (first
     | ((refine step_append_lies _ (by rfl) _ _ _ (by rfl) w3.heap.size 82 i70 _ 3 48 Tryz.underlying57 (uh HI70) (uh HZ70) (uh HS70) (uh HB70) rfl (by omega) (.slice pv j cv) j xs (by rfl) (uh HO5 w5 _ (uh HB5)) ⟨w5.heap.size, 0, none⟩ 1 1 [.string s, .slice p2 x.bs.length c2, .int .i64 (x.sy : Int)] (by rfl) (by rfl) (World.news_of_block (heap_alloc_new w5 _)) (one3 _ _ _ _ _) (by omega) (by unfold maxLen; omega) (by omega) (by rw [World.size_alloc]; have := (uh HB5).size; omega) _ rfl ?_; intro g6 cap6 w6 hown6 hgr6 hat6 hlt6; obtain ⟨t0, t1, t2, t3⟩ := uh H6 w5 _ w6 (uh HB5) hgr6; have u0 := fun v' => (World.cell?_of_block (w := w6) (a := ⟨wr.heap.size, 0, none⟩) (Below.heap_setCell w6 ⟨w.heap.size + 1, 1, none⟩ v' wr.heap.size (by show wr.heap.size ≠ w.heap.size + 1; omega))).trans t0; have u1 := fun v' => (World.cell?_of_block (w := w6) (a := ⟨wr.heap.size, 1, none⟩) (Below.heap_setCell w6 ⟨w.heap.size + 1, 1, none⟩ v' wr.heap.size (by show wr.heap.size ≠ w.heap.size + 1; omega))).trans t1; have O6 := hide hown6; have G6 := hide hgr6; clear hown6 hgr6 hat6 hlt6))
     | ((go_simp; go_at_call 49; refine (uh HCL).mono ?_; rintro e w5 ⟨⟨p2, c2, rfl, hr5⟩, hb5'⟩; have HB5 : Hid (Below w4.heap.size w4 w5) := ⟨hb5'.os, hb5'.tape, hb5'.output, hb5'.size, hb5'.block⟩; obtain ⟨s0, s1, s2, s3⟩ := uh H5 w5 (uh HB5); have s0a := fun o => keep1 (bal (Below.refl w5.heap.size w5) o) (World.block_lt_of_cell? w5 _ s0) s0; have s1a := fun o => keep1 (bal (Below.refl w5.heap.size w5) o) (World.block_lt_of_cell? w5 _ s1) s1; have s2a := fun o => keep1 (bal (Below.refl w5.heap.size w5) o) (World.block_lt_of_cell? w5 _ s2) s2; have R5 := hide hr5; clear hr5 hb5')))
    all_goals go_wp2_with fail
    all_goals exact ⟨⟨j + 1, _, by omega, by go_num, uh HSTEP w5 _ w6 p2 c2 _ (uh HB5) (uh R5) (uh G6) (uh O6)⟩, by simp [intOf]; omega⟩
  ·have hjL : j = L := by omega
   subst hjL
   have hown := hst.own
   have e0 := cell_of_own hown 0
   have e1 := cell_of_own hown 1
   have e2 := cell_of_own hown 2
   have e3 := cell_of_own hown 3
   have hRw : wr.heap[w.heap.size]? = _ := (hst.block w.heap.size (by omega) (by omega)).trans (uh hR3)
   have r0 := cell_of_own hRw 0
   have r1 := cell_of_own hRw 1
   have r2 := cell_of_own hRw 2
   have r3 := cell_of_own hRw 3
   have f0 := frozen_of_own hRw 0
   have f1 := frozen_of_own hRw 1
   have f2 := frozen_of_own hRw 2
   have f3 := frozen_of_own hRw 3
   have hwl : w.heap.size < wr.heap.size := by have := hst.size; omega
   clear hst hown hRw
   go_wp2_with fail
   refine bodyPost_ret (ret_state (b := w.heap.size) (a1 := K.cap) (a3 := K.fuse) (a4 := K.down) (p := pv) (m := j) (c := cv) (by rfl) (by go_simp) (by go_simp) (by go_simp) (by go_simp)) rfl ?_
   have hB := (uh HS).below (uh B3) (by omega)
   have hfar : ∀ q, w3.heap.size <= q -> ((((wr.setCell ⟨w.heap.size, 0, none⟩ (.int .i64 K.cap)).setCell ⟨w.heap.size, 1, none⟩ (.slice pv j cv)).setCell ⟨w.heap.size, 2, none⟩ (.int .i64 K.fuse)).setCell ⟨w.heap.size, 3, none⟩ (.bool K.down)).heap[q]? = wr.heap[q]? := fun q hq => by
    rw [Below.heap_setCell _ ⟨w.heap.size, 3, none⟩ _ q (by show q ≠ w.heap.size; omega), Below.heap_setCell _ ⟨w.heap.size, 2, none⟩ _ q (by show q ≠ w.heap.size; omega), Below.heap_setCell _ ⟨w.heap.size, 1, none⟩ _ q (by show q ≠ w.heap.size; omega), Below.heap_setCell _ ⟨w.heap.size, 0, none⟩ _ q (by show q ≠ w.heap.size; omega)]
   obtain ⟨xs, hr, hsc⟩ := (uh HS).fr
   rw [uh HL, List.take_length] at hr hsc
   rw [<- uh HL] at hr
   refine ⟨⟨_, rfl, w3.heap.size, by omega, xs, by rw [<- uh HL]; exact row_far hr (fun q hq => hfar q (hr.lt q hq).1), ?_⟩, ?_⟩
   ·have := hsc.far (fun q h1 _ _ => hfar q h1)
    simpa using this
   ·exact (((hB.setCell (p := ⟨w.heap.size, 0, none⟩) (Nat.le_refl _) _).setCell (p := ⟨w.heap.size, 1, none⟩) (Nat.le_refl _) _).setCell (p := ⟨w.heap.size, 2, none⟩) (Nat.le_refl _) _).setCell (p := ⟨w.heap.size, 3, none⟩) (Nat.le_refl _) _
end Go.Proofs.YtpeohbkigkfcgaaGreatDoor
namespace Go.Proofs.YtpeohbkigkfcgaaGreatDoor
open Go Go.Shelf Go.ChangeShapes Go.WideShapes Go.ChangeAt Go.RowKit
theorem bytes_asymm {a b : List UInt8} (h : bytesBefore a b = true) : bytesBefore b a = false := by
 cases h2 : bytesBefore b a with
 | false => rfl
 | true =>
  have := bytes_trans _ _ _ h h2
  rw [Go.WideAt.bytes_irrefl] at this
  cases this
theorem put_set : ∀ {A : Fs} {j : Nat} {k : List UInt8} {x : Fl} (y : Fl), OrdF A -> A[j]? = some (k, x) -> putF k y A = A.set j (k, y)
 | [], j, k, x, y, _, h => by simp at h
 | a :: A, 0, k, x, y, hO, h => by
  simp only [List.getElem?_cons_zero, Option.some.injEq] at h
  subst h
  unfold OrdF at hO
  rw [List.pairwise_cons] at hO
  have hd : delF k ((k, x) :: A) = A := by
   have h1 : delF k ((k, x) :: A) = delF k A := by unfold delF; rw [List.filter_cons]; simp
   rw [h1]
   refine del_none ?_
   unfold getF
   rw [Option.map_eq_none_iff, List.find?_eq_none]
   intro b hb e
   simp only [beq_iff_eq] at e
   have := hO.1 b hb
   rw [e, Go.WideAt.bytes_irrefl] at this
   cases this
  unfold putF
  rw [hd, List.set_cons_zero]
  cases A with
  | nil => rfl
  | cons b r =>
   have : (Lit.string k).before (.string b.1) = true := hO.1 b (by simp)
   unfold insF
   rw [if_pos this]
 | a :: A, j + 1, k, x, y, hO, h => by
  simp only [List.getElem?_cons_succ] at h
  unfold OrdF at hO
  rw [List.pairwise_cons] at hO
  have hb := hO.1 _ (List.mem_of_getElem? h)
  have hne : (a.1 == k) = false := by
   rw [beq_eq_false_iff_ne]
   intro e
   rw [e, Go.WideAt.bytes_irrefl] at hb
   cases hb
  have hd : delF k (a :: A) = a :: delF k A := by unfold delF; rw [List.filter_cons, hne]; rfl
  have hbb : (Lit.string k).before (.string a.1) = false := bytes_asymm hb
  have ih := put_set (A := A) y hO.2 h
  unfold putF at ih ⊢
  rw [hd, List.set_cons_succ, <- ih]
  show insF (k, y) (a :: delF k A) = _
  rw [insF, if_neg (by rw [hbb]; simp)]
def leftC (ks : List Int) (i : Nat) (x : Fl) : Nat := if ks = [] then x.sy else x.sy + (min (max (ks.getD (i % ks.length) 0) 0) ((x.bs.length : Int) - (x.sy : Int))).toNat
def cutF (ks : List Int) (i : Nat) (x : Fl) : Fl := ⟨x.bs.take (leftC ks i x), leftC ks i x⟩
theorem left_le (ks : List Int) (i : Nat) {x : Fl} (h : x.sy <= x.bs.length) : leftC ks i x <= x.bs.length := by
 unfold leftC
 split
 ·exact h
 ·omega
theorem cut_len (ks : List Int) (i : Nat) {x : Fl} (h : x.sy <= x.bs.length) : (cutF ks i x).bs.length = leftC ks i x := by
 unfold cutF
 rw [List.length_take]
 have := left_le ks i h
 omega
def cutTo (ks : List Int) (A : Fs) (j : Nat) : Fs := A.mapIdx fun i p => if i < j then (p.1, cutF ks i p.2) else p
theorem cutTo_get (ks : List Int) (A : Fs) (j i : Nat) : (cutTo ks A j)[i]? = (A[i]?).map fun p => if i < j then (p.1, cutF ks i p.2) else p := by
 unfold cutTo
 rw [List.getElem?_mapIdx]
theorem cutTo_zero (ks : List Int) (A : Fs) : cutTo ks A 0 = A := by
 refine List.ext_getElem? (fun i => ?_)
 rw [cutTo_get]
 cases A[i]? <;> simp
theorem cutTo_keys (ks : List Int) (A : Fs) (j : Nat) : (cutTo ks A j).map (·.1) = A.map (·.1) := by
 refine List.ext_getElem? (fun i => ?_)
 rw [List.getElem?_map, List.getElem?_map, cutTo_get]
 cases A[i]? with
 | none => rfl
 | some p =>
  simp only [Option.map_some]
  split <;> rfl
theorem ord_keys {A B : Fs} (h : A.map (·.1) = B.map (·.1)) (hO : OrdF A) : OrdF B := by
 have h1 : (A.map (·.1)).Pairwise fun x y => bytesBefore x y = true := List.pairwise_map.2 hO
 rw [h] at h1
 exact List.pairwise_map.1 h1
theorem cutTo_ord (ks : List Int) {A : Fs} (j : Nat) (hO : OrdF A) : OrdF (cutTo ks A j) := ord_keys (cutTo_keys ks A j).symm hO
theorem cutTo_step (ks : List Int) {A : Fs} {j : Nat} {k : List UInt8} {x : Fl} (hO : OrdF A) (h : A[j]? = some (k, x)) : putF k (cutF ks j x) (cutTo ks A j) = cutTo ks A (j + 1) := by
 have hj : (cutTo ks A j)[j]? = some (k, x) := by rw [cutTo_get, h]; simp
 rw [put_set _ (cutTo_ord ks j hO) hj]
 refine List.ext_getElem? (fun i => ?_)
 have hlt : j < (cutTo ks A j).length := by
  rcases Nat.lt_or_ge j (cutTo ks A j).length with h1 | h1
  ·exact h1
  ·rw [List.getElem?_eq_none h1] at hj; cases hj
 rw [List.getElem?_set, cutTo_get, cutTo_get]
 by_cases e : j = i
 ·subst e
  rw [if_pos rfl, if_pos hlt, h]
  simp
 ·rw [if_neg e]
  cases A[i]? with
  | none => rfl
  | some p =>
   simp only [Option.map_some, Option.some.injEq]
   by_cases h1 : i < j
   ·rw [if_pos h1, if_pos (by omega)]
   ·rw [if_neg h1, if_neg (by omega)]
theorem cutTo_len (ks : List Int) (A : Fs) (j : Nat) : (cutTo ks A j).length = A.length := by unfold cutTo; simp
def crashK (ks : List Int) (K : Dk) : Dk := ⟨K.cap, cutTo ks K.A K.A.length, -1, false⟩
end Go.Proofs.YtpeohbkigkfcgaaGreatDoor
namespace Go.Proofs.YtpeohbkigkfcgaaGreatDoor
open Go Go.Shelf Go.ChangeShapes Go.WideShapes Go.ChangeAt Go.RowKit Go.Maps Go.Sort
def KsAt (W : World) (u : Value) (ks : List Int) : Prop :=
 (u = .slice none 0 0 /\ ks = []) \/ ∃ b off c, u = .slice (some ⟨b, off, none⟩) ks.length c /\ ∀ i k, ks[i]? = some k -> W.cell? ⟨b, off + i, none⟩ = some (.int .i64 k)
theorem DiskOK.some {W : World} {d N : Nat} {K : Dk} {S : Nat -> Prop} (h : DiskOK W d N K S) (hA : K.A ≠ []) : ∃ b n es, DiskIs W d N K S (some b) n es := by
 obtain ⟨mo, n, es, h⟩ := h
 cases mo with
 | none =>
  rcases h.at'.files with ⟨_, h2⟩ | ⟨b, h1, _⟩
  ·injection h2 with h2
   have := h.fs.all.len
   rw [h2] at this
   exact absurd (List.eq_nil_of_length_eq_zero this.symm) hA
  ·cases h1
 | some b => exact ⟨b, n, es, h⟩
theorem cut_row {w : World} {p : Option Addr} {c l : Nat} {bs : List UInt8} (h : w.ownsRow 0 5 1 (.slice p bs.length c) bs.length (bcs bs)) (hl : l <= bs.length) (hp : p ≠ none) : w.ownsRow 0 5 1 (.slice p (bs.take l).length c) (bs.take l).length (bcs (bs.take l)) := by
 have hlen : (bs.take l).length = l := by rw [List.length_take]; omega
 rw [hlen]
 rcases h.2 with ⟨h1, _⟩ | ⟨g, cap, cur, h1, _⟩
 ·injection h1 with h1
  exact absurd h1 hp
 ·injection h1 with h1 _ h1c
  subst h1 h1c
  refine row_cut (m := bs.length - l) (ys := (bcs bs).drop l) (by rw [bcs_len, hlen]) ?_
  rw [bcs_take, List.take_append_drop, show l + (bs.length - l) = bs.length by omega]
  exact h
theorem crash_ok {w : World} {d N : Nat} {K : Dk} {S : Nat -> Prop} (h : DiskOK w d N K S) (hN : N < 900000) (hI : Inv K) (pk : Option Addr) (ck : Nat) (ks : List Int) (hk : KsAt w (.slice pk ks.length ck) ks) (hks : ∀ q, (Value.slice pk ks.length ck).ownBlock = some q -> ¬ S q) (hkl : ks.length <= 4000000000000000000) :
  Calls Tryz.prog 43 #[.pointer (some ⟨d, 0, none⟩), .slice pk ks.length ck] w fun e w' => (∃ r, e = .returned r) /\ ∃ S', DiskOK w' d (N + K.A.length) (crashK ks K) S' /\ Sep w w' S S' := by
 have HD := hide h
 have HI := hide hI
 have HK := hide hk
 have HKS := hide hks
 have hAl := hI.many
 obtain ⟨L, hL⟩ : ∃ L, L = K.A.length := ⟨_, rfl⟩
 rw [<- hL] at hAl ⊢
 have HL := hide hL
 have hSl : Hid (∀ q, S q -> q < w.heap.size) := by obtain ⟨mo, n, es, h'⟩ := h; exact h'.sl
 clear hI hL hk hks
 obtain ⟨mo, n, es, h⟩ := h
 have HN := hide (names_ok h (uh HI).ord (by rw [<- uh HL]; exact hAl))
 clear h
 go_enter Tryz.func43, Tryz.ntmps43
 go_wp2_with fail
 refine (uh HN).mono ?_
 rintro e w3 ⟨v0, rfl, hrow, hb3⟩
 rw [<- uh HL] at hrow
 have B3 : Hid (Below w.heap.size w w3) := hb3
 have hz3 : w.heap.size <= w3.heap.size := hb3.size
 have hv0 : ∃ p0 c0, v0 = .slice p0 L c0 := by
  rcases hrow.2 with ⟨h1, h2⟩ | ⟨g, cap, cur, h1, _⟩
  ·exact ⟨none, 0, by rw [h1, h2]⟩
  ·exact ⟨_, _, h1⟩
 obtain ⟨p0, c0, rfl⟩ := hv0
 have HROW := hide hrow
 have S0 : Hid (DiskOK w3 d (N + 0) ⟨K.cap, cutTo ks K.A 0, K.fuse, K.down⟩ S /\ Sep w3 w3 S S) := ⟨by rw [cutTo_zero]; exact (uh HD).below hb3, Sep.refl _ _⟩
 clear hrow hb3 HN
 go_wp2_with fail
 go_loopw [11] (fun u wr => ∃ (j : Nat) (S' : Nat -> Prop), j <= L /\ u = .int .i64 (j : Int) /\ DiskOK wr d (N + j) ⟨K.cap, cutTo ks K.A j, K.fuse, K.down⟩ S' /\ Sep w3 wr S S') (fun u _ => L - (intOf u).toNat)
 case atStart => exact ⟨0, S, Nat.zero_le _, rfl, (uh S0).1, (uh S0).2⟩
 case round =>
  obtain ⟨j, S', hj, rfl, hDj, hsep⟩ := hrel
  have HDJ := hide hDj; have HSEP := hide hsep
  by_cases hlt : j < L
  ·have hkx : ∃ k x, K.A[j]? = some (k, x) := by
    have : j < K.A.length := by rw [<- uh HL]; exact hlt
    exact ⟨_, _, List.getElem?_eq_getElem this⟩
   obtain ⟨k, x, hkx⟩ := hkx
   have hcx : (cutTo ks K.A j)[j]? = some (k, x) := by rw [cutTo_get, hkx]; simp
   have hget := get_at (cutTo_ord ks j (uh HI).ord) hcx
   have hgetA := get_at (uh HI).ord hkx
   have hx1 := get_le_tot hgetA
   have hx2 := (uh HI).tot
   have hx3 := (uh HI).cap1
   have hxl : x.bs.length <= 1048576 := by omega
   have hsy : x.sy <= x.bs.length := (uh HI).sy _ (get_mem hgetA)
   have hnm := (uh HI).nm _ (get_mem hgetA)
   obtain ⟨s, hs⟩ : ∃ s : ByteArray, s = ⟨k.toArray⟩ := ⟨_, rfl⟩
   have hsk : s.data.toList = k := by rw [hs]
   have hes : encStr k = .string s := by rw [hs]
   rw [<- hs] at hnm
   have hsl : s.size <= maxLen := by have := nameS_size hnm; unfold maxLen; omega
   obtain ⟨b, n', es', hD⟩ := hDj.some (by intro e; simp only at e; rw [e] at hcx; simp at hcx)
   rw [<- hsk] at hget
   obtain ⟨p, c, lk, hh⟩ := look_file hD hsl hget
   have hS' : ∀ q, q < w3.heap.size -> ¬ S q -> ¬ S' q := fun q hq hn h' => by
    rcases hsep.new q h' with h1 | h1
    ·exact hn h1
    ·omega
   have hp0 : ∃ g, p0 = some ⟨g, 0, none⟩ /\ w.heap.size <= g /\ g < w3.heap.size /\ w3.cell? ⟨g, j, none⟩ = some (.string s) := by
    have hr := uh HROW
    rcases hr.2 with ⟨h1, h2⟩ | ⟨g, cap, cur, h1, h2, h3, _⟩
    ·omega
    ·injection h1 with h1 _ h1c
     subst h1 h1c
     refine ⟨g, rfl, h2, (hr.lt g rfl).2, ?_⟩
     have := hr.cells (g := g) rfl j (.string s) (by rw [List.getElem?_map, List.getElem?_map, hkx]; exact congrArg some hes)
     rw [Addr.add_mid, Nat.zero_add] at this
     exact this
   obtain ⟨g, rfl, hg1, hg2, hg3⟩ := hp0
   have cg : wr.cell? ⟨g, j, none⟩ = some (.string s) := (World.cell?_of_block (a := ⟨g, j, none⟩) (hsep.block g hg2 (fun h' => by have := uh hSl g h'; omega))).trans hg3
   have cd1 := hD.at'.c1
   have hjw : IntKind.i64.wrap ((j : Int) + 1) = (j : Int) + 1 := by rw [IntKind.wrap_i64]; omega
   have i0 : (0 : Int) <= (j : Int) := by omega
   have i1 : (j : Int) < (L : Int) := by omega
   obtain ⟨w4, hw4⟩ : ∃ w4, w4 = wr.alloc (.cells #[.slice p x.bs.length c, .int .i64 (x.sy : Int)] 88) := ⟨_, rfl⟩
   have b4 : Below wr.heap.size wr w4 := by rw [hw4]; exact bal (Below.refl _ _) _
   have kf0 : w4.cell? ⟨wr.heap.size, 0, none⟩ = some (.slice p x.bs.length c) := by rw [hw4]; simp
   have kf1 : w4.cell? ⟨wr.heap.size, 1, none⟩ = some (.int .i64 (x.sy : Int)) := by rw [hw4]; simp
   have hD4 := hD.below b4
   have hh4 := hh.below b4
   have hown := hh4.own hD4
   obtain ⟨l, hl⟩ : ∃ l, l = leftC ks j x := ⟨_, rfl⟩
   have hll : l <= x.bs.length := by rw [hl]; exact left_le ks j hsy
   have HP : Hid (∀ W, Below w4.heap.size w4 W -> ∀ p5 c5, (p = none -> p5 = none /\ c5 = 0 /\ l = 0) -> (p ≠ none -> p5 = p /\ c5 = c) -> Calls Tryz.prog 147 #[.pointer (some ⟨d, 0, none⟩), .string s, .agg #[.slice p5 l c5, .int .i64 (l : Int)]] W fun e w' => (∃ r, e = .returned r) /\ ∃ S2, DiskOK w' d (N + (j + 1)) ⟨K.cap, cutTo ks K.A (j + 1), K.fuse, K.down⟩ S2 /\ Sep w3 w' S S2) := by
    intro W hbW p5 c5 hp1 hp2
    have hcl := cut_len ks j hsy
    rw [<- hl] at hcl
    have hrow5 : W.ownsRow 0 5 1 (.slice p5 (cutF ks j x).bs.length c5) (cutF ks j x).bs.length (bcs (cutF ks j x).bs) := by
     by_cases hp : p = none
     ·obtain ⟨rfl, rfl, h0⟩ := hp1 hp
      have hbs : (cutF ks j x).bs = [] := List.eq_nil_of_length_eq_zero (by rw [hcl, h0])
      rw [hbs]
      exact World.ownsRow_nil _ _ _ _
     ·obtain ⟨rfl, rfl⟩ := hp2 hp
      have := cut_row (hh4.below hbW).row hll hp
      rw [hl] at this
      exact this
    have hcut : cutTo ks K.A (j + 1) = putF s.data.toList (cutF ks j x) (cutTo ks K.A j) := by rw [hsk, cutTo_step ks (uh HI).ord hkx]
    rw [hcut]
    have hpi := put_is (hD4.below hbW) (by omega) s hsl p5 c5 (cutF ks j x) hrow5 (fun q hq => by
     by_cases hp : p = none
     ·obtain ⟨rfl, rfl, h0⟩ := hp1 hp
      cases hq
     ·obtain ⟨rfl, rfl⟩ := hp2 hp
      exact hown q (by cases p5 with | none => exact absurd rfl hp | some a => exact hq))
    have hcs : (cutF ks j x).sy = l := by rw [hl]; rfl
    rw [hcl, hcs] at hpi
    refine hpi.mono ?_
    rintro e w' ⟨hr, S2, h1, h2⟩
    exact ⟨hr, S2, h1, ((hsep.trans (Sep.of_below S' b4)).trans (Sep.of_below S' hbW)).trans h2⟩
   have hcap : x.bs.length <= c := by
    rcases hh4.row.2 with ⟨h1, h2⟩ | ⟨_, _, _, h1, _, _, h3, _⟩
    ·omega
    ·injection h1 with _ _ h1c
     omega
   have hpl : Hid (p = none -> x.bs.length = 0 /\ c = 0) := fun e => by
    rcases hh4.row.2 with ⟨h1, h2⟩ | ⟨_, _, _, h1, _⟩
    ·injection h1 with _ h1 h1c
     exact ⟨h2, h1c⟩
    ·rw [e] at h1; cases h1
   have H4 := hide hw4
   have HLL := hide hl
   have hKr : Hid (KsAt wr (.slice pk ks.length ck) ks) := by
    rcases uh HK with h1 | ⟨bk, off, ck', h1, h2⟩
    ·exact .inl h1
    ·refine .inr ⟨bk, off, ck', h1, fun i k' hi => ?_⟩
     have h3 := h2 i k' hi
     have h4 := World.block_lt_of_cell? w _ h3
     have h5 : ¬ S bk := uh HKS bk (by rw [h1]; rfl)
     exact (World.cell?_of_block (a := ⟨bk, off + i, none⟩) ((hsep.block bk (by exact Nat.lt_of_lt_of_le h4 hz3) h5).trans ((uh B3).block bk h4))).trans h3
   have B4 := hide b4
   clear hsep hS' hx1 hx2 hx3 hs hsk hes hget hgetA hh hkx hg3 hnm hcx hD hD4 hh4 hown hw4 b4 hl
   have hcc : x.bs.length <= c := hcap
   have i2 : (0 : Int) <= (l : Int) := by omega
   have i3 : (l : Int) <= (c : Int) := by omega
   have i4 : (l : Int) <= (x.bs.length : Int) := by omega
   have HP2 : Hid (∀ W, Below w4.heap.size w4 W -> Calls Tryz.prog 147 #[.pointer (some ⟨d, 0, none⟩), .string s, .agg #[.slice p l c, .int .i64 (l : Int)]] W fun e w' => (∃ r, e = .returned r) /\ ∃ S2, DiskOK w' d (N + (j + 1)) ⟨K.cap, cutTo ks K.A (j + 1), K.fuse, K.down⟩ S2 /\ Sep w3 w' S S2) := fun W hbW => uh HP W hbW p c (fun e => ⟨e, (uh hpl e).2, by have := (uh hpl e).1; omega⟩) (fun _ => ⟨rfl, rfl⟩)
   by_cases hke : ks = []
   ·have hlen0 : ks.length = 0 := by rw [hke]; rfl
    have hl2 : l = x.sy := by rw [uh HLL]; unfold leftC; rw [if_pos hke]
    subst hl2
    rw [hlen0] at *
    go_wp2_with fail
    rw [<- uh H4]
    refine (uh HP2 w4 (Below.refl _ _)).mono ?_
    rintro e w5 ⟨⟨rr, rfl⟩, S2, hd5, hs5⟩
    have HF := hide (And.intro hd5 hs5)
    clear hd5 hs5
    go_wp2_with fail
    exact ⟨⟨j + 1, S2, by omega, by go_num, (uh HF).1, (uh HF).2⟩, by simp [intOf]; omega⟩
   ·obtain ⟨kn, hkn⟩ : ∃ kn, kn = ks.length := ⟨_, rfl⟩
    have hkp : 0 < kn := by
     rcases Nat.eq_zero_or_pos kn with h0 | h0
     ·exact absurd (List.eq_nil_of_length_eq_zero (by rw [<- hkn]; exact h0)) hke
     ·exact h0
    obtain ⟨bk, off, hpk, hcell⟩ : ∃ bk off, pk = some ⟨bk, off, none⟩ /\ ∀ i k', ks[i]? = some k' -> wr.cell? ⟨bk, off + i, none⟩ = some (.int .i64 k') := by
     rcases uh hKr with ⟨_, h1⟩ | ⟨bk, off, ck', h1, h2⟩
     ·exact absurd h1 hke
     ·injection h1 with h1 _ _
      exact ⟨bk, off, h1, h2⟩
    subst hpk
    have hmod : j % kn < kn := Nat.mod_lt _ hkp
    obtain ⟨kk, hkk⟩ : ∃ kk, ks[j % kn]? = some kk := ⟨_, List.getElem?_eq_getElem (by rw [<- hkn]; exact hmod)⟩
    have hc4 : w4.cell? ⟨bk, off + j % kn, none⟩ = some (.int .i64 kk) := by
     have h1 := hcell _ _ hkk
     exact keep1 (uh B4) (World.block_lt_of_cell? wr _ h1) h1
    obtain ⟨r, hr⟩ : ∃ r, r = j % kn := ⟨_, rfl⟩
    have htm : (j : Int).tmod (kn : Int) = (r : Int) := by
     rw [hr, Int.tmod_eq_emod_of_nonneg (by omega)]
     exact (Int.natCast_emod j kn).symm
    rw [<- hr] at hc4 hmod hkk
    have HLV : Hid ((l : Int) = (x.sy : Int) + min (max kk 0) ((x.bs.length : Int) - (x.sy : Int))) := by
     have h1 := uh HLL
     unfold leftC at h1
     rw [if_neg hke, <- hkn, <- hr, List.getD_eq_getElem?_getD, hkk] at h1
     simp only [Option.getD_some] at h1
     show (l : Int) = _
     rw [h1]
     omega
    have n1 : ¬ (kn : Int) = 0 := by omega
    have n2 : (0 : Int) < (kn : Int) := by omega
    have n3 : (0 : Int) <= (r : Int) := by omega
    have n4 : (r : Int) < (kn : Int) := by omega
    have n5 : (kn == 0) = false := by simp; omega
    rw [<- hkn] at *
    clear hcell hke hkk hr
    go_wp2_with fail
    rw [<- uh H4]
    go_region
    rw [<- uh HLV]
    go_wp2_with fail
    refine (uh HP2 w4.drew (below_drewN (Below.refl _ _) 1)).mono ?_
    rintro e w5 ⟨⟨rr, rfl⟩, S2, hd5, hs5⟩
    have HF := hide (And.intro hd5 hs5)
    clear hd5 hs5
    go_wp2_with fail
    exact ⟨⟨j + 1, S2, by omega, by go_num, (uh HF).1, (uh HF).2⟩, by simp [intOf]; omega⟩
  ·have hjL : j = L := by omega
   subst hjL
   obtain ⟨mo', n', es', hD⟩ := hDj
   have c2 := hD.at'.c2
   have c3 := hD.at'.c3
   have f2 := hD.fz 2
   have f3 := hD.fz 3
   have HDI := hide hD
   clear hD hsep
   go_wp2_with fail
   go_end0
   refine ⟨⟨_, rfl⟩, S', ⟨mo', n', es', ?_⟩, ((Sep.of_below S (uh B3)).trans (uh HSEP)).trans ((Sep.cell _ S' d 2 _ (uh HDI).sd).trans (Sep.cell _ S' d 3 _ (uh HDI).sd))⟩
   have := ((uh HDI).fuse (-1)).downs false
   rw [uh HL] at this ⊢
   exact this
theorem down_ok {w : World} {d N n : Nat} {K : Dk} {S : Nat -> Prop} {mo : Option Nat} {es : List (Lit × DataW Value)} (h : DiskIs w d N K S mo n es) :
  Calls Tryz.prog 47 #[.pointer (some ⟨d, 0, none⟩)] w fun e w' => e = .returned (.bool K.down) /\ w' = w := by
 have c3 := h.at'.c3
 clear h
 go_enter Tryz.func47, Tryz.ntmps47
 go_wp2_with fail
 go_ret
 exact ⟨rfl, rfl⟩
theorem list_ok {w : World} {d N n : Nat} {K : Dk} {S : Nat -> Prop} {mo : Option Nat} {es : List (Lit × DataW Value)} (h : DiskIs w d N K S mo n es) (hO : OrdF K.A) (hl : K.A.length <= 64) (hdn : K.down = false) :
  Calls Tryz.prog 45 #[.pointer (some ⟨d, 0, none⟩)] w fun e w' => ∃ v, e = .returned (.tuple #[v, .int .i64 0]) /\ w'.ownsRow w.heap.size 9 1 v K.A.length ((K.A.map (·.1)).map encStr) /\ Below w.heap.size w w' := by
 have c3 := h.at'.c3
 rw [hdn] at c3
 have HN := hide (names_ok h hO hl)
 clear h
 go_enter Tryz.func45, Tryz.ntmps45
 go_wp2_with fail
 refine (uh HN).mono ?_
 rintro e w1 ⟨v, rfl, h1, h2⟩
 have H1 := hide h1; have H2 := hide h2
 clear h1 h2
 go_wp2_with fail
 go_ret2
 exact ⟨v, rfl, uh H1, uh H2⟩
theorem look_hit {w : World} {d N n : Nat} {K : Dk} {S : Nat -> Prop} {mo : Option Nat} {es : List (Lit × DataW Value)} (h : DiskIs w d N K S mo n es) (s : ByteArray) (hs : s.size <= maxLen) (hdn : K.down = false) (hn : nameS s = true) {x : Fl} (hx : getF s.data.toList K.A = some x) :
  Calls Tryz.prog 151 #[.pointer (some ⟨d, 0, none⟩), .string s] w fun e w' => (∃ p c, e = .returned (.tuple #[.agg #[.slice p x.bs.length c, .int .i64 (x.sy : Int)], .int .i64 0]) /\ w'.ownsRow 0 5 1 (.slice p x.bs.length c) x.bs.length (bcs x.bs)) /\ Below w.heap.size w w' := by
 have c3 := h.at'.c3
 rw [hdn] at c3
 have hdl := h.at'.lt
 have he : erF s K = 0 := by unfold erF; rw [if_neg (by rw [hn]; simp), if_pos (by rw [hx]; rfl)]
 have HD := hide h
 clear h
 have B0 : Hid (Below w.heap.size w (w.alloc (.cells #[.slice none 0 0, .int .i64 0] 88))) := bal (Below.refl w.heap.size w) _
 go_enter Tryz.func151, Tryz.ntmps151
 go_wp2_with fail
 refine (find_ok ((uh HD).below (uh B0)) s hs).mono ?_
 rintro e w1 ⟨⟨p, m, c, y, er, rfl, hfo⟩, hb1⟩
 have her : er = 0 := hfo.1.trans he
 obtain ⟨x', hh⟩ := hfo.2.2 her
 have hxx : x' = x := Option.some.inj (hh.get.symm.trans hx)
 subst hxx
 have hml := hh.len
 have hsy := hh.syn
 have R1 := hide (own_below hh.row hb1)
 have hown := hh.own ((uh HD).below (uh B0))
 have hne : Hid (∀ q, (Value.slice p m c).ownBlock = some q -> q ≠ w.heap.size) := fun q hq e => by
  have h1 := (uh HD).sl q (hown q hq).1
  omega
 clear hh hown
 subst hml hsy her
 have c0 : w1.cell? ⟨w.heap.size, 0, none⟩ = some (.slice none 0 0) := (hb1.cell (p := ⟨w.heap.size, 0, none⟩) (by simp)).trans (by simp)
 have c1 : w1.cell? ⟨w.heap.size, 1, none⟩ = some (.int .i64 0) := (hb1.cell (p := ⟨w.heap.size, 1, none⟩) (by simp)).trans (by simp)
 have f0 : w1.frozen? ⟨w.heap.size, 0, none⟩ = false := (hb1.frozen (p := ⟨w.heap.size, 0, none⟩) (by simp)).trans (by simp)
 have f1 : w1.frozen? ⟨w.heap.size, 1, none⟩ = false := (hb1.frozen (p := ⟨w.heap.size, 1, none⟩) (by simp)).trans (by simp)
 have B1 : Hid (Below w.heap.size w w1) := (uh B0).trans (hb1.mono (by simp))
 clear hfo hb1 he hx
 go_wp2_with fail
 refine bodyPost_ret (ret_file (b := w.heap.size) (p := p) (n := x'.bs.length) (c := c) (y := (x'.sy : Int)) (er := .int .i64 0) (by go_simp) (by go_simp) rfl rfl) rfl ?_
 exact ⟨⟨p, c, rfl, row_far (row_far (uh R1) (fun q hq => Below.heap_setCell _ ⟨w.heap.size, 0, none⟩ _ q (uh hne q hq))) (fun q hq => Below.heap_setCell _ ⟨w.heap.size, 1, none⟩ _ q (uh hne q hq))⟩, ((uh B1).setCell (p := ⟨w.heap.size, 0, none⟩) (Nat.le_refl _) _).setCell (p := ⟨w.heap.size, 1, none⟩) (Nat.le_refl _) _⟩
theorem bytes_cut {W : World} {b c m : Nat} {p : Option Addr} {bs : List UInt8} (h : W.ownsRow b 5 1 (.slice p bs.length c) bs.length (bcs bs)) (hm : m <= bs.length) : BytesAt W (.slice p (bs.take m).length c) (bs.take m) := by
 rcases BytesAt.of_row h with ⟨h1, h2⟩ | ⟨b', off, c', h1, h2⟩
 ·injection h1 with h1 _ h1c
  subst h1 h1c h2
  exact .inl ⟨by simp, by simp⟩
 ·injection h1 with h1 _ h1c
  subst h1 h1c
  refine .inr ⟨b', off, _, rfl, fun j u hj => h2 j u ?_⟩
  rw [bcs_take, List.getElem?_take] at hj
  split at hj
  ·exact hj
  ·cases hj
theorem read_ok {w : World} {d N n : Nat} {K : Dk} {S : Nat -> Prop} {mo : Option Nat} {es : List (Lit × DataW Value)} (h : DiskIs w d N K S mo n es) (s : ByteArray) (hs : s.size <= maxLen) (hdn : K.down = false) (hn : nameS s = true) {x : Fl} (hx : getF s.data.toList K.A = some x) (hxl : x.bs.length <= 1048576) (m : Nat) (hm : m <= x.bs.length) :
  Calls Tryz.prog 44 #[.pointer (some ⟨d, 0, none⟩), .string s, .int .i64 0, .int .i64 (m : Int)] w fun e w' => (∃ p c, e = .returned (.tuple #[.slice p m c, .int .i64 0]) /\ w'.ownsRow w.heap.size 5 1 (.slice p m c) m (bcs (x.bs.take m))) /\ Below w.heap.size w w' := by
 have HK := hide (look_hit h s hs hdn hn hx)
 clear h hx
 go_enter Tryz.func44, Tryz.ntmps44
 go_wp2_with fail
 refine (uh HK).mono ?_
 rintro e w1 ⟨⟨p, c, rfl, hr⟩, hb⟩
 have hcap : x.bs.length <= c := by
  rcases hr.2 with ⟨h1, h2⟩ | ⟨_, _, _, h1, _, _, h3, _⟩
  ·omega
  ·injection h1 with _ _ h1c
   omega
 have i1 : ¬ ((x.bs.length : Int) < (m : Int)) := by omega
 have i2 : (m : Int) <= (c : Int) := by omega
 have i3 : (0 : Int) <= (m : Int) := by omega
 have R1 := hide hr; have HB := hide hb
 clear hr hb
 have hlen : (x.bs.take m).length = m := by rw [List.length_take]; omega
 have HC := clone_ok (w := w1.alloc (.cells #[.slice p x.bs.length c, .int .i64 (x.sy : Int)] 88)) p c (x.bs.take m) ((bytes_cut (uh R1) hm).below (bal (Below.refl w1.heap.size w1) _)) (by omega)
 rw [hlen] at HC
 have HCL := hide HC
 clear HC
 go_wp2_with fail
 refine (uh HCL).mono ?_
 rintro e w3 ⟨⟨p3, c3, rfl, hr3⟩, hb3⟩
 have R3 := hide hr3; have HB3 := hide hb3
 clear hr3 hb3
 go_wp2_with fail
 go_ret2
 have h1 := (uh HB).size
 exact ⟨⟨p3, c3, rfl, row_base (uh R3) (by rw [World.size_alloc]; omega)⟩, ((uh HB).alloc h1 _).trans ((uh HB3).mono (by rw [World.size_alloc]; omega))⟩
theorem StCells.at {W : World} {b e : Nat} {A : Fs} {xs : List Value} (h : StCells W b e A xs) : ∀ {i : Nat} {k : List UInt8} {x : Fl}, A[i]? = some (k, x) -> ∃ p c b', xs[i * 3]? = some (encStr k) /\ xs[i * 3 + 1]? = some (.slice p x.bs.length c) /\ xs[i * 3 + 2]? = some (.int .i64 (x.sy : Int)) /\ W.ownsRow b' 5 1 (.slice p x.bs.length c) x.bs.length (bcs x.bs) := by
 induction h with
 | nil _ => intro i k x h; simp at h
 | cons hr hl hb hs ih =>
  intro i k x h
  cases i with
  | zero =>
   simp only [List.getElem?_cons_zero, Option.some.injEq, Prod.mk.injEq] at h
   obtain ⟨rfl, rfl⟩ := h
   exact ⟨_, _, _, rfl, rfl, rfl, hr⟩
  | succ i =>
   simp only [List.getElem?_cons_succ] at h
   obtain ⟨p, c, b', h1, h2, h3, h4⟩ := ih h
   refine ⟨p, c, b', ?_, ?_, ?_, h4⟩
   ·rw [show (i + 1) * 3 = i * 3 + 1 + 1 + 1 by omega]; exact h1
   ·rw [show (i + 1) * 3 + 1 = (i * 3 + 1) + 1 + 1 + 1 by omega]; exact h2
   ·rw [show (i + 1) * 3 + 2 = (i * 3 + 2) + 1 + 1 + 1 by omega]; exact h3
theorem FilesRow.at {W : World} {b e : Nat} {v : Value} {A : Fs} (h : FilesRow W b e v A) {i : Nat} {k : List UInt8} {x : Fl} (hi : A[i]? = some (k, x)) : ∃ g cap p c b', v = .slice (some ⟨g, 0, none⟩) A.length cap /\ g < W.heap.size /\ W.cell? ⟨g, i * 3, none⟩ = some (encStr k) /\ W.cell? ⟨g, i * 3 + 1, none⟩ = some (.slice p x.bs.length c) /\ W.cell? ⟨g, i * 3 + 2, none⟩ = some (.int .i64 (x.sy : Int)) /\ W.ownsRow b' 5 1 (.slice p x.bs.length c) x.bs.length (bcs x.bs) := by
 obtain ⟨xs, hr, hs⟩ := h
 obtain ⟨p, c, b', h1, h2, h3, h4⟩ := hs.at hi
 have hpos : 0 < A.length := by
  rw [List.getElem?_eq_some_iff] at hi
  obtain ⟨hi, _⟩ := hi
  omega
 obtain ⟨g, cap, rfl⟩ := own_open hr hpos
 refine ⟨g, cap, p, c, b', rfl, (hr.lt g rfl).2, ?_, ?_, ?_, h4⟩
 ·have := hr.cells (g := g) rfl _ _ h1
  rw [Addr.add_mid, Nat.zero_add] at this
  exact this
 ·have := hr.cells (g := g) rfl _ _ h2
  rw [Addr.add_mid, Nat.zero_add] at this
  exact this
 ·have := hr.cells (g := g) rfl _ _ h3
  rw [Addr.add_mid, Nat.zero_add] at this
  exact this
theorem FilesRow.form {W : World} {b e : Nat} {v : Value} {A : Fs} (h : FilesRow W b e v A) : ∃ p c, v = .slice p A.length c := by
 obtain ⟨xs, hr, _⟩ := h
 rcases hr.2 with ⟨h1, h2⟩ | ⟨g, cap, cur, h1, _⟩
 ·exact ⟨none, 0, by rw [h1, h2]⟩
 ·exact ⟨_, _, h1⟩
theorem FilesRow.below {W W' : World} {b e : Nat} {v : Value} {A : Fs} (h : FilesRow W b e v A) (he : e <= W.heap.size) (hb : Below W.heap.size W W') : FilesRow W' b e v A := by
 obtain ⟨xs, hr, hs⟩ := h
 exact ⟨xs, own_below hr hb, hs.far (fun q _ h2 _ => hb.block q (by omega))⟩
def txtB (bs : List UInt8) : ByteArray := strOfNums (bs.map fun b => (b.toNat : Int))
theorem conv_row {W : World} {b c : Nat} {p : Option Addr} {bs : List UInt8} (h : W.ownsRow b 5 1 (.slice p bs.length c) bs.length (bcs bs)) : (convert 55 9 (.slice p bs.length c)).run Tryz.prog W = .ok (.string (txtB bs)) W := by
 rcases h.2 with ⟨h1, h2⟩ | ⟨g, cap, cur, h1, _⟩
 ·injection h1 with h1 h1b h1c
  subst h1 h1c
  have hb : bs = [] := List.eq_nil_of_length_eq_zero h2
  subst hb
  exact run_convert_bytes_nil W 55 5 Tryz.underlying55 Tryz.underlying5 _ _ 9 Tryz.underlying9
 ·injection h1 with h1 _ h1c
  subst h1 h1c
  refine run_convert_bytes_arg W 55 5 Tryz.underlying55 Tryz.underlying5 g 0 bs.length _ (bs.map fun b => (b.toNat : Int)) (by simp) (fun i hi => ?_) 9 Tryz.underlying9
  have := h.cells (g := g) rfl i _ (bcs_get hi)
  rw [Addr.add_mid] at this
  rw [this]
  simp [List.getD_eq_getElem?_getD, hi]
theorem same_ok {w : World} (cap fuse : Int) (down : Bool) {va vb : Value} {A : Fs} {b1 e1 b2 e2 : Nat} (ha : FilesRow w b1 e1 va A) (hb : FilesRow w b2 e2 vb A) (he1 : e1 <= w.heap.size) (he2 : e2 <= w.heap.size) (hl : A.length <= 64) :
  Calls Tryz.prog 11 #[.agg #[.int .i64 cap, va, .int .i64 fuse, .bool down], .agg #[.int .i64 cap, vb, .int .i64 fuse, .bool down]] w fun e w' => e = .returned (.bool true) /\ Below w.heap.size w w' := by
 obtain ⟨pa, ca, rfl⟩ := ha.form
 obtain ⟨pb, cb, rfl⟩ := hb.form
 obtain ⟨L, hL⟩ : ∃ L, L = A.length := ⟨_, rfl⟩
 rw [<- hL] at hl ha hb ⊢
 have HL := hide hL
 clear hL
 obtain ⟨w1, hw1⟩ : ∃ w1, w1 = (w.alloc (.cells #[.int .i64 cap, .slice pa L ca, .int .i64 fuse, .bool down] 59)).alloc (.cells #[.int .i64 cap, .slice pb L cb, .int .i64 fuse, .bool down] 59) := ⟨_, rfl⟩
 have hb1 : Below w.heap.size w w1 := by rw [hw1]; exact bal (bal (Below.refl _ _) _) _
 have hz1 : w1.heap.size = w.heap.size + 1 + 1 := by rw [hw1]; simp
 have k1 : w1.cell? ⟨w.heap.size, 1, none⟩ = some (.slice pa L ca) := by rw [hw1]; simp
 have k2 : w1.cell? ⟨w.heap.size + 1, 1, none⟩ = some (.slice pb L cb) := by rw [hw1]; simp
 have HA := hide (ha.below he1 hb1); have HB := hide (hb.below he2 hb1)
 have H1 := hide hw1
 have HB1 := hide hb1
 clear ha hb hw1 hb1
 cases down <;>
 ·go_enter Tryz.func11, Tryz.ntmps11
  go_wp2_with fail
  rw [<- uh H1]
  go_loopw [5] (fun u wr => ∃ i : Nat, i <= L /\ u = .int .i64 (i : Int) /\ Below w1.heap.size w1 wr) (fun u _ => L - (intOf u).toNat)
  case atStart => exact ⟨0, Nat.zero_le _, rfl, Below.refl _ _⟩
  case round =>
   obtain ⟨i, hi, rfl, hbr⟩ := hrel
   have l1 := keep1 hbr (by omega) k1
   have l2 := keep1 hbr (by omega) k2
   have HBR := hide hbr
   by_cases hlt : i < L
   ·have hkx : ∃ k x, A[i]? = some (k, x) := by
     have : i < A.length := by rw [<- uh HL]; exact hlt
     exact ⟨_, _, List.getElem?_eq_getElem this⟩
    obtain ⟨k, x, hkx⟩ := hkx
    obtain ⟨ga, xa, p1, c1, b1', ea, la, a0, a1, a2, ra⟩ := (uh HA).at hkx
    obtain ⟨gb, xb, p2, c2, b2', eb, lb, d0, d1, d2, rb⟩ := (uh HB).at hkx
    injection ea with ea _ ea3
    injection eb with eb _ eb3
    subst ea eb
    obtain ⟨s, hs⟩ : ∃ s : ByteArray, encStr k = .string s := ⟨_, rfl⟩
    rw [hs] at a0 d0
    have a0 := keep1 hbr la a0
    have a1 := keep1 hbr la a1
    have a2 := keep1 hbr la a2
    have d0 := keep1 hbr lb d0
    have d1 := keep1 hbr lb d1
    have d2 := keep1 hbr lb d2
    have hra := own_below ra hbr
    have hrb := own_below rb hbr
    obtain ⟨T, hT⟩ : ∃ T, T = txtB x.bs := ⟨_, rfl⟩
    have cv1 : ∀ o1 o2, (convert 55 9 (.slice p1 x.bs.length c1)).run Tryz.prog ((wr.alloc o1).alloc o2) = .ok (.string T) ((wr.alloc o1).alloc o2) := fun o1 o2 => by rw [hT]; exact conv_row (own_below (own_below hra (bal (Below.refl _ _) _)) (bal (Below.refl _ _) _))
    have cv2 : ∀ o1 o2, (convert 55 9 (.slice p2 x.bs.length c2)).run Tryz.prog ((wr.alloc o1).alloc o2) = .ok (.string T) ((wr.alloc o1).alloc o2) := fun o1 o2 => by rw [hT]; exact conv_row (own_below (own_below hrb (bal (Below.refl _ _) _)) (bal (Below.refl _ _) _))
    have la0 : ∀ o, (wr.alloc o).cell? ⟨gb, i * 3, none⟩ = some (.string s) := fun o => keep1 (bal (Below.refl wr.heap.size wr) o) (World.block_lt_of_cell? wr _ d0) d0
    have la1 : ∀ o, (wr.alloc o).cell? ⟨gb, i * 3 + 1, none⟩ = some (.slice p2 x.bs.length c2) := fun o => keep1 (bal (Below.refl wr.heap.size wr) o) (World.block_lt_of_cell? wr _ d1) d1
    have la2 : ∀ o, (wr.alloc o).cell? ⟨gb, i * 3 + 2, none⟩ = some (.int .i64 (x.sy : Int)) := fun o => keep1 (bal (Below.refl wr.heap.size wr) o) (World.block_lt_of_cell? wr _ d2) d2
    have l2a : ∀ o, (wr.alloc o).cell? ⟨w.heap.size + 1, 1, none⟩ = some (.slice (some ⟨gb, 0, none⟩) L cb) := fun o => keep1 (bal (Below.refl wr.heap.size wr) o) (World.block_lt_of_cell? wr _ l2) l2
    have i0 : (0 : Int) <= (i : Int) := by omega
    have i1 : (i : Int) < (L : Int) := by omega
    clear hbr ra rb hra hrb hT hkx d0 d1 d2 l2
    go_wp2_with fail
    exact ⟨⟨i + 1, by omega, by go_num, ((uh HBR).alloc (uh HBR).size _).alloc (by rw [World.size_alloc]; have := (uh HBR).size; omega) _⟩, by simp [intOf]; omega⟩
   ·have j1 : ¬ (i : Int) < (L : Int) := by omega
    clear hbr
    go_wp2_with fail
    go_ret
    exact ⟨rfl, (uh HB1).trans ((uh HBR).mono (by omega))⟩
theorem DiskOK.more {W : World} {d N N' : Nat} {K : Dk} {S : Nat -> Prop} (h : DiskOK W d N K S) (hN : N <= N') : DiskOK W d N' K S := h.mono hN
theorem tot_mapIdx : ∀ (A : Fs) (f : Nat -> List UInt8 × Fl -> List UInt8 × Fl), (∀ i, ∀ p ∈ A, (f i p).2.bs.length <= p.2.bs.length) -> totF (A.mapIdx f) <= totF A
 | [], f, _ => by simp [totF]
 | a :: A, f, h => by
  rw [List.mapIdx_cons]
  have h1 := tot_mapIdx A (fun i => f (i + 1)) (fun i p hp => h (i + 1) p (by simp [hp]))
  have h2 := h 0 a (by simp)
  simp only [totF, List.map_cons, List.sum_cons] at h1 ⊢
  omega
theorem Inv.crash {K : Dk} (h : Inv K) (ks : List Int) : Inv (crashK ks K) := by
 have hmem : ∀ p ∈ cutTo ks K.A K.A.length, ∃ i q, q ∈ K.A /\ p = (q.1, cutF ks i q.2) := by
  intro p hp
  obtain ⟨i, hi⟩ := List.mem_iff_getElem?.1 hp
  rw [cutTo_get] at hi
  obtain ⟨q, hq, rfl⟩ := Option.map_eq_some_iff.1 hi
  have hlt : i < K.A.length := by
   rw [List.getElem?_eq_some_iff] at hq
   exact hq.1
  exact ⟨i, q, List.mem_of_getElem? hq, by rw [if_pos hlt]⟩
 refine ⟨cutTo_ord ks _ h.ord, fun p hp => ?_, fun p hp => ?_, ?_, h.cap1, by simp [crashK], by simp [crashK], ?_⟩
 ·obtain ⟨i, q, hq, rfl⟩ := hmem p hp
  exact h.nm q hq
 ·obtain ⟨i, q, hq, rfl⟩ := hmem p hp
  show leftC ks i q.2 <= (cutF ks i q.2).bs.length
  rw [cut_len ks i (h.sy q hq)]
  exact Nat.le_refl _
 ·have h1 : totF (cutTo ks K.A K.A.length) <= totF K.A := tot_mapIdx _ _ (fun i p hp => by
   split
   ·show (p.2.bs.take _).length <= _
    rw [List.length_take]
    omega
   ·exact Nat.le_refl _)
  have h2 := h.tot
  show (totF (cutTo ks K.A K.A.length) : Int) <= K.cap
  omega
 ·show (cutTo ks K.A K.A.length).length <= 64
  rw [cutTo_len]
  exact h.many
theorem Sep.below {w w' : World} {S S' : Nat -> Prop} {B : Nat} (h : Sep w w' S S') (hS : ∀ q, S q -> B <= q) (hB : B <= w.heap.size) : Below B w w' := ⟨h.os, h.tape, h.output, h.size, fun k hk => h.block k (by omega) (fun h' => by have := hS k h'; omega)⟩
theorem Sep.from {w w' : World} {S S' : Nat -> Prop} {B : Nat} (h : Sep w w' S S') (hS : ∀ q, S q -> B <= q) (hB : B <= w.heap.size) : ∀ q, S' q -> B <= q := fun q hq => by
 rcases h.new q hq with h1 | h1
 ·exact hS q h1
 ·omega
theorem Sep.out {w w' : World} {S S' : Nat -> Prop} (h : Sep w w' S S') {b : Nat} (hb : ¬ S b) (hl : b < w.heap.size) : ¬ S' b := fun h' => by
 rcases h.new b h' with h1 | h1
 ·exact hb h1
 ·omega
theorem FilesRow.sep {W W' : World} {b e : Nat} {v : Value} {A : Fs} {S S' : Nat -> Prop} (h : FilesRow W b e v A) (he : e <= W.heap.size) (hs : Sep W W' S S') (hS : ∀ q, S q -> q < b) : FilesRow W' b e v A := by
 obtain ⟨xs, hr, hc⟩ := h
 refine ⟨xs, row_far hr (fun q hq => hs.block q (hr.lt q hq).2 (fun h' => ?_)), hc.far (fun q h1 h2 _ => hs.block q (by omega) (fun h' => ?_))⟩
 ·have h1 := hS q h'
  have h2 := (hr.lt q hq).1
  omega
 ·have := hS q h'
  omega
theorem get_none_iff {k : List UInt8} {A : Fs} : getF k A = none ↔ ∀ p ∈ A, p.1 ≠ k := by
 unfold getF
 rw [Option.map_eq_none_iff, List.find?_eq_none]
 simp
theorem tot_del_some {k : List UInt8} {x : Fl} {A : Fs} (hO : OrdF A) (h : getF k A = some x) : totF (delF k A) + x.bs.length = totF A := by
 have h1 : totF (putF k x A) = x.bs.length + totF (delF k A) := tot_ins (k, x) (delF k A)
 obtain ⟨j, hj⟩ := List.mem_iff_getElem?.1 (get_mem h)
 have h2 : putF k x A = A := by
  rw [put_set x hO hj]
  refine List.ext_getElem? (fun i => ?_)
  rw [List.getElem?_set]
  by_cases e : j = i
  ·subst e
   have : j < A.length := by
    rw [List.getElem?_eq_some_iff] at hj
    exact hj.1
   rw [if_pos rfl, if_pos this, hj]
  ·rw [if_neg e]
 rw [h2] at h1
 omega
theorem map_far {W W' : World} {b n : Nat} {D : DataW Value} (h : W.ownsMap Tryz.prog 9 fileElem b n D) (hq : W'.heap[b]? = W.heap[b]?) : W'.ownsMap Tryz.prog 9 fileElem b n D := by
 obtain ⟨es, clock, hb, F, hs, hD⟩ := h
 exact ⟨es, clock, hq.trans hb, F, hs, hD⟩
theorem DiskIs.far {W W' : World} {d N n : Nat} {K : Dk} {S : Nat -> Prop} {mo : Option Nat} {es : List (Lit × DataW Value)} (h : DiskIs W d N K S mo n es) (hq : ∀ q, S q -> W'.heap[q]? = W.heap[q]?) (hz : W.heap.size <= W'.heap.size) : DiskIs W' d N K S mo n es :=
 ⟨⟨(World.cell?_of_block (a := ⟨d, 0, none⟩) (hq d h.sd)).trans h.at'.c0, (World.cell?_of_block (a := ⟨d, 1, none⟩) (hq d h.sd)).trans h.at'.c1, (World.cell?_of_block (a := ⟨d, 2, none⟩) (hq d h.sd)).trans h.at'.c2, (World.cell?_of_block (a := ⟨d, 3, none⟩) (hq d h.sd)).trans h.at'.c3, h.at'.files.imp id (fun ⟨b, h1, h2⟩ => ⟨b, h1, map_far h2 (hq b (h.mb b h1).2.1)⟩)⟩,
  h.fs.far (fun e he q hq' => hq q (h.eb e he q hq')), h.nle, h.mb, h.db, h.eb, fun j => (World.frozen?_of_block (a := ⟨d, j, none⟩) (hq d h.sd)).trans (h.fz j), h.sd, fun q hq' => Nat.lt_of_lt_of_le (h.sl q hq') hz⟩
theorem DiskOK.sep {W W' : World} {t N : Nat} {K : Dk} {S S' T : Nat -> Prop} (h : DiskOK W t N K T) (hs : Sep W W' S S') (hd : ∀ q, T q -> ¬ S q) : DiskOK W' t N K T := by
 obtain ⟨mo, n, es, h⟩ := h
 exact ⟨mo, n, es, h.far (fun q hq => hs.block q (h.sl q hq) (hd q hq)) hs.size⟩
theorem DiskOK.sl {W : World} {t N : Nat} {K : Dk} {T : Nat -> Prop} (h : DiskOK W t N K T) : ∀ q, T q -> q < W.heap.size := by
 obtain ⟨mo, n, es, h⟩ := h
 exact h.sl
theorem less_before : ∀ a b : List UInt8, Op.bytesLess a b = bytesBefore a b
 | [], [] => rfl
 | [], _ :: _ => rfl
 | _ :: _, [] => rfl
 | a :: x, b :: y => by simp [Op.bytesLess, bytesBefore, less_before x y]
end Go.Proofs.YtpeohbkigkfcgaaGreatDoor
