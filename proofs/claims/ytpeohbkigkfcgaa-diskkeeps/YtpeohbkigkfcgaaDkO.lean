/- disk: State (9). -/
import Derived.Test.YtpeohbkigkfcgaaDkN
namespace Go.Proofs.Ytpeohbkigkfcgaa
open Go Go.Shelf Go.ChangeShapes Go.WideShapes Go.ChangeAt Go.RowKit Go.Maps Go.Sort
set_option linter.unusedVariables false
theorem info70 : (Try.prog.info? 70).map (fun i => (i.zero, i.size, i.bytes)) = some (some (.agg #[.string ⟨#[]⟩, .slice none 0 0, .int .i64 0]), 3, 48) := by kernel_rfl
/-- State's own struct, and the files that are laid into it -/
structure StW (w3 W : World) (B : Nat) (K : Dk) (j : Nat) (v : Value) : Prop where
  os : W.os = w3.os
  tape : W.tape = w3.tape
  output : W.output = w3.output
  size : w3.heap.size ≤ W.heap.size
  block : ∀ q, q < w3.heap.size → q ≠ B → W.heap[q]? = w3.heap[q]?
  own : W.heap[B]? = some (.cells #[.int .i64 K.cap, v, .int .i64 K.fuse, .bool K.down] 31)
  fr : FilesRow W w3.heap.size W.heap.size v (K.A.take j)
theorem StW.below {w w3 W : World} {B j : Nat} {K : Dk} {v : Value} (h : StW w3 W B K j v) (hb : Below w.heap.size w w3) (hB : w.heap.size ≤ B) : Below w.heap.size w W :=
  ⟨h.os.trans hb.os, h.tape.trans hb.tape, h.output.trans hb.output, Nat.le_trans hb.size h.size, fun k hk => (h.block k (Nat.lt_of_lt_of_le hk hb.size) (by omega)).trans (hb.block k hk)⟩
theorem cell_of_own {W : World} {B : Nat} {cs : Array Value} {t : TypeId} (h : W.heap[B]? = some (.cells cs t)) (j : Nat) : W.cell? ⟨B, j, none⟩ = cs[j]? := by
  unfold World.cell?
  simp only [h]
  rfl
theorem frozen_of_own {W : World} {B : Nat} {cs : Array Value} {t : TypeId} (h : W.heap[B]? = some (.cells cs t)) (j : Nat) : W.frozen? ⟨B, j, none⟩ = false := by
  unfold World.frozen?
  simp [h]
theorem ret_state {tmps : Array Value} {w : World} {b : Nat} {a1 a3 : Int} {p : Option Addr} {m c : Nat} {a4 : Bool} (hp : tmps[2]?.getD undef = .pointer (some ⟨b, 0, none⟩)) (h0 : w.cell? ⟨b, 0, none⟩ = some (.int .i64 a1)) (h1 : w.cell? ⟨b, 1, none⟩ = some (.slice p m c)) (h2 : w.cell? ⟨b, 2, none⟩ = some (.int .i64 a3)) (h3 : w.cell? ⟨b, 3, none⟩ = some (.bool a4)) :
    (results Try.f9 tmps).run Try.prog w = .ok (.agg #[.int .i64 a1, .slice p m c, .int .i64 a3, .bool a4]) w := by
  simp [results, hp, asAddr, go_sem, h0, h1, h2, h3]
theorem own_set {W : World} {B : Nat} {a b c v v' : Value} {t : TypeId} (h : W.heap[B]? = some (.cells #[a, v, b, c] t)) : (W.setCell ⟨B, 1, none⟩ v').heap[B]? = some (.cells #[a, v', b, c] t) := by
  have := Go.heap_setCell_same W B 1 #[a, v, b, c] t v' h
  simpa using this
theorem own_far {w w' : World} {row : Option Nat} (hg : w.grownBy w' row) {q : Nat} (hq : q < w.heap.size) (hne : ∀ r, row = some r → q ≠ r) : w'.heap[q]? = w.heap[q]? := hg.block q hq (fun e => hne q e.symm rfl)
/-- a round: one file more -/
theorem StW.step {w3 wr w5 w6 : World} {B j : Nat} {K : Dk} {v v' : Value} {o o6 : Obj} {xs : List Value} (h : StW w3 wr B K j v) (hBl : B < w3.heap.size) (hrow : wr.ownsRow w3.heap.size 70 3 v j xs) (hsc : StCells wr w3.heap.size wr.heap.size (K.A.take j) xs) {k : List UInt8} {x : Fl} (hkx : K.A[j]? = some (k, x))
    (hb5 : Below (wr.alloc o).heap.size (wr.alloc o) w5) {p2 : Option Addr} {c2 : Nat} (r5 : w5.ownsRow (wr.alloc o).heap.size 5 1 (.slice p2 x.bs.length c2) x.bs.length (bcs x.bs)) (hgr : (w5.alloc o6).grownBy w6 v.ownBlock) (hown6 : w6.ownsRow w3.heap.size 70 3 v' (j + 1) (xs ++ [encStr k, .slice p2 x.bs.length c2, .int .i64 (x.sy : Int)])) :
    StW w3 (w6.setCell ⟨B, 1, none⟩ v') B K (j + 1) v' := by
  have hz4 : (wr.alloc o).heap.size = wr.heap.size + 1 := World.size_alloc _ _
  have hz5 := hb5.size
  have hz6 := hgr.size
  rw [World.size_alloc] at hz6
  have hz3 := h.size
  have hvb : ∀ r, v.ownBlock = some r → w3.heap.size ≤ r ∧ r < wr.heap.size := fun r hr => hrow.lt r hr
  have k6 : ∀ q, q < w5.heap.size → (∀ r, v.ownBlock = some r → q ≠ r) → w6.heap[q]? = w5.heap[q]? := fun q hq hne => (own_far hgr (by rw [World.size_alloc]; omega) hne).trans (Below.heap_alloc _ _ _ hq)
  have k5 : ∀ q, q < wr.heap.size → w5.heap[q]? = wr.heap[q]? := fun q hq => (hb5.block q (by omega)).trans (Below.heap_alloc _ _ _ hq)
  have hlen : (K.A.take (j + 1)).length = j + 1 := by
    have : j < K.A.length := by
      rw [List.getElem?_eq_some_iff] at hkx
      exact hkx.1
    rw [List.length_take]; omega
  have htake : K.A.take (j + 1) = K.A.take j ++ [(k, x)] := by rw [List.take_add_one, hkx]; rfl
  have hsz : (w6.setCell ⟨B, 1, none⟩ v').heap.size = w6.heap.size := by simp
  have k7 : ∀ q, q ≠ B → (w6.setCell ⟨B, 1, none⟩ v').heap[q]? = w6.heap[q]? := fun q hq => Below.heap_setCell _ ⟨B, 1, none⟩ _ q hq
  have hp1 : StCells w6 w3.heap.size wr.heap.size (K.A.take j) xs := hsc.far (fun q h1 h2 h3 => by
    rw [k6 q (by omega) (fun r hr e => ?_), k5 q h2]
    obtain ⟨cur, hcur⟩ := h3
    subst e
    rcases hrow.2 with ⟨h4, _⟩ | ⟨g, cap, cur', h4, _, h5, _⟩
    · rw [h4] at hr; cases hr
    · rw [h4] at hr
      simp only [Value.ownBlock, Option.some.injEq] at hr
      subst hr
      rw [hcur] at h5
      injection h5 with h5
      injection h5 with _ h5 _
      cases h5)
  have hp2 : StCells w6 wr.heap.size w6.heap.size [(k, x)] [encStr k, .slice p2 x.bs.length c2, .int .i64 (x.sy : Int)] := by
    refine .cons (m := w5.heap.size) (row_base (row_far r5 (fun q hq => k6 q (r5.lt q hq).2 (fun r hr e => ?_))) (by omega)) (fun q hq => (r5.lt q hq).2) (by omega) (.nil (by omega))
    have h1 := (r5.lt q hq).1
    have h2 := (hvb r hr).2
    omega
  refine ⟨?_, ?_, ?_, ?_, ?_, ?_, ?_⟩
  · exact hgr.os.trans (hb5.os.trans h.os)
  · exact hgr.tape.trans (hb5.tape.trans h.tape)
  · exact hgr.output.trans (hb5.output.trans h.output)
  · rw [hsz]; omega
  · intro q hq hne
    rw [k7 q hne, k6 q (by omega) (fun r hr e => by have := (hvb r hr).1; omega), k5 q (by omega)]
    exact h.block q hq hne
  · have h6 : w6.heap[B]? = some (.cells #[.int .i64 K.cap, v, .int .i64 K.fuse, .bool K.down] 31) := by
      rw [k6 B (by omega) (fun r hr e => by have := (hvb r hr).1; omega), k5 B (by omega)]
      exact h.own
    exact own_set h6
  · refine ⟨xs ++ [encStr k, .slice p2 x.bs.length c2, .int .i64 (x.sy : Int)], ?_, ?_⟩
    · rw [hlen]
      exact row_far hown6 (fun q hq => k7 q (by have := (hown6.lt q hq).1; omega))
    · rw [htake, hsz]
      exact (hp1.append hp2).far (fun q h1 h2 h3 => k7 q (by omega))
theorem one3 (s : ByteArray) (p : Option Addr) (m c : Nat) (y : Int) : ∀ u ∈ [Value.string s, .slice p m c, .int .i64 y], u.oneCell' = true := by
  intro u hu
  simp only [List.mem_cons, List.not_mem_nil, or_false] at hu
  rcases hu with rfl | rfl | rfl <;> rfl
theorem nameS_size {s : ByteArray} (h : nameS s = true) : s.size ≤ 40 := by
  simp only [nameS, Bool.and_eq_true, decide_eq_true_eq] at h
  exact h.1.2
theorem StW.form {w3 W : World} {B j : Nat} {K : Dk} {v : Value} (h : StW w3 W B K j v) (hj : j ≤ K.A.length) : ∃ p c, v = .slice p j c := by
  obtain ⟨xs, hr, _⟩ := h.fr
  rw [List.length_take, Nat.min_eq_left hj] at hr
  rcases hr.2 with ⟨h1, h2⟩ | ⟨g, cap, cur, h1, _⟩
  · exact ⟨none, 0, by rw [h1, h2]⟩
  · exact ⟨_, _, h1⟩
set_option maxRecDepth 100000 in
set_option maxHeartbeats 4000000 in
theorem state_ok {w : World} {d N n : Nat} {K : Dk} {S : Nat → Prop} {mo : Option Nat} {es : List (Lit × DataW Value)} (h : DiskIs w d N K S mo n es) (hI : Inv K) :
    Calls Try.prog 9 #[.pointer (some ⟨d, 0, none⟩)] w fun e w' => (∃ v, e = .returned (.agg #[.int .i64 K.cap, v, .int .i64 K.fuse, .bool K.down]) ∧ ∃ b, w.heap.size ≤ b ∧ FilesRow w' b w'.heap.size v K.A) ∧ Below w.heap.size w w' := by
  have HD := hide h
  have hdl := h.at'.lt
  have c0 := h.at'.c0
  have c2 := h.at'.c2
  have c3 := h.at'.c3
  have HI := hide hI
  have hAl := hI.many
  obtain ⟨L, hL⟩ : ∃ L, L = K.A.length := ⟨_, rfl⟩
  rw [← hL] at hAl
  have HL := hide hL
  clear h hI hL
  go_enter Try.func9, Try.ntmps9
  go_wp2_with fail
  go_region
  obtain ⟨w2, hw2⟩ : ∃ w2, w2 = ((w.alloc (.cells #[.int .i64 0, .slice none 0 0, .int .i64 0, .bool false] 31)).alloc (.cells #[.int .i64 K.cap, .slice none 0 0, .int .i64 K.fuse, .bool K.down] 31)).drew := ⟨_, rfl⟩
  have B2 : Hid (Below w.heap.size w w2) := by rw [hw2]; exact below_drewN (bal (bal (Below.refl w.heap.size w) _) _) 1
  have hz2 : w2.heap.size = w.heap.size + 1 + 1 := by rw [hw2]; simp
  have hB0 : Hid (w2.heap[w.heap.size + 1]? = some (.cells #[.int .i64 K.cap, .slice none 0 0, .int .i64 K.fuse, .bool K.down] 31)) := by
    rw [hw2]
    have := heap_alloc_new (w.alloc (.cells #[.int .i64 0, .slice none 0 0, .int .i64 0, .bool false] 31)) (.cells #[.int .i64 K.cap, .slice none 0 0, .int .i64 K.fuse, .bool K.down] 31)
    rw [World.size_alloc] at this
    exact this
  have hR0 : Hid (w2.heap[w.heap.size]? = some (.cells #[.int .i64 0, .slice none 0 0, .int .i64 0, .bool false] 31)) := by
    rw [hw2]
    have h1 := heap_alloc_new w (.cells #[.int .i64 0, .slice none 0 0, .int .i64 0, .bool false] 31)
    exact (Below.heap_alloc _ _ _ (by rw [World.size_alloc]; omega)).trans h1
  rw [← hw2]
  clear hw2 c0 c2 c3
  go_wp2_with fail
  refine (names_ok ((unhide HD).below (unhide B2)) (unhide HI).ord (by rw [← unhide HL]; exact hAl)).mono ?_
  rintro e w3 ⟨v0, rfl, hrow, hb3⟩
  rw [← unhide HL] at hrow
  have B3 : Hid (Below w.heap.size w w3) := (unhide B2).trans (hb3.mono (by omega))
  have hz3 : w2.heap.size ≤ w3.heap.size := hb3.size
  have hv0 : ∃ p0 c0, v0 = .slice p0 L c0 := by
    rcases hrow.2 with ⟨h1, h2⟩ | ⟨g, cap, cur, h1, _⟩
    · exact ⟨none, 0, by rw [h1, h2]⟩
    · exact ⟨_, _, h1⟩
  obtain ⟨p0, c0, rfl⟩ := hv0
  have HROW := hide hrow
  have S0 : Hid (StW w3 w3 (w.heap.size + 1) K 0 (.slice none 0 0)) := ⟨rfl, rfl, rfl, Nat.le_refl _, fun _ _ _ => rfl, (hb3.block _ (by omega)).trans (unhide hB0), ⟨[], by rw [List.take_zero]; exact World.ownsRow_nil _ _ _ _, by rw [List.take_zero]; exact .nil (Nat.le_refl _)⟩⟩
  have hR3 : Hid (w3.heap[w.heap.size]? = some (.cells #[.int .i64 0, .slice none 0 0, .int .i64 0, .bool false] 31)) := (hb3.block _ (by omega)).trans (unhide hR0)
  clear hrow hb3 hB0 hR0
  go_wp2_with fail
  go_loopw [23] (fun u wr => ∃ (j : Nat) (v : Value), j ≤ L ∧ u = .int .i64 (j : Int) ∧ StW w3 wr (w.heap.size + 1) K j v) (fun u _ => L - (intOf u).toNat)
  case atStart => exact ⟨0, _, Nat.zero_le _, rfl, unhide S0⟩
  case round =>
    obtain ⟨j, v, hj, rfl, hst⟩ := hrel
    obtain ⟨pv, cv, rfl⟩ := hst.form (by rw [← unhide HL]; exact hj)
    have HS := hide hst
    by_cases hlt : j < L
    · have hkx : ∃ k x, K.A[j]? = some (k, x) := by
        have : j < K.A.length := by rw [← unhide HL]; exact hlt
        exact ⟨_, _, List.getElem?_eq_getElem this⟩
      obtain ⟨k, x, hkx⟩ := hkx
      have hget := get_at (unhide HI).ord hkx
      have hB4 := hst.below (unhide B3) (by omega)
      have hDr := (unhide HD).below hB4
      have hx1 := get_le_tot hget
      have hx2 := (unhide HI).tot
      have hx3 := (unhide HI).cap1
      have hxl : x.bs.length ≤ 1048576 := by omega
      have hnm := (unhide HI).nm _ (get_mem hget)
      obtain ⟨s, hs⟩ : ∃ s : ByteArray, s = ⟨k.toArray⟩ := ⟨_, rfl⟩
      have hsk : s.data.toList = k := by rw [hs]
      have hes : encStr k = .string s := by rw [hs]
      rw [← hs] at hnm
      have hsl : s.size ≤ maxLen := by have := nameS_size hnm; unfold maxLen; omega
      cases mo with
      | none =>
        exfalso
        rcases hDr.at'.files with ⟨_, h2⟩ | ⟨b, h1, _⟩
        · injection h2 with h2
          have := hDr.fs.all.len
          rw [h2] at this
          have : K.A = [] := List.eq_nil_of_length_eq_zero this.symm
          rw [this] at hkx
          simp at hkx
        · cases h1
      | some b =>
        rw [← hsk] at hget
        obtain ⟨p, c, lk, hh⟩ := look_file hDr hsl hget
        have HH := hide hh
        have cd1 := hDr.at'.c1
        have HDR := hide hDr
        have hp0 : ∃ g, p0 = some ⟨g, 0, none⟩ ∧ w2.heap.size ≤ g ∧ g < w3.heap.size ∧ w3.cell? ⟨g, j, none⟩ = some (.string s) := by
          have hr := unhide HROW
          rcases hr.2 with ⟨h1, h2⟩ | ⟨g, cap, cur, h1, h2, h3, _⟩
          · omega
          · injection h1 with h1 _ h1c
            subst h1 h1c
            refine ⟨g, rfl, h2, (hr.lt g rfl).2, ?_⟩
            have := hr.cells (g := g) rfl j (.string s) (by rw [List.getElem?_map, List.getElem?_map, hkx]; exact congrArg some hes)
            rw [Addr.add_mid, Nat.zero_add] at this
            exact this
        obtain ⟨g, rfl, hg1, hg2, hg3⟩ := hp0
        have cg : wr.cell? ⟨g, j, none⟩ = some (.string s) := (World.cell?_of_block (a := ⟨g, j, none⟩) (hst.block g hg2 (by omega))).trans hg3
        have hjw : IntKind.i64.wrap ((j : Int) + 1) = (j : Int) + 1 := by rw [IntKind.wrap_i64]; omega
        have HK := hide hkx; have HES := hide hes
        have i0 : (0 : Int) ≤ (j : Int) := by omega
        have i1 : (j : Int) < (L : Int) := by omega
        have hBl : w.heap.size + 1 < w3.heap.size := by omega
        obtain ⟨xs, hrow, hsc⟩ := hst.fr
        rw [List.length_take, Nat.min_eq_left (by rw [← unhide HL]; exact hj)] at hrow
        have hvb : ∀ r, (Value.slice pv j cv).ownBlock = some r → w3.heap.size ≤ r ∧ r < wr.heap.size := fun r hr => hrow.lt r hr
        have hwr := hst.size
        have HROWF := hide hrow; have HSC := hide hsc; have HVB := hide hvb
        obtain ⟨w4, hw4⟩ : ∃ w4, w4 = wr.alloc (.cells #[.slice p x.bs.length c, .int .i64 (x.sy : Int)] 67) := ⟨_, rfl⟩
        have hz4 : w4.heap.size = wr.heap.size + 1 := by rw [hw4]; simp
        have b4 : Below wr.heap.size wr w4 := by rw [hw4]; exact bal (Below.refl _ _) _
        have kf0 : w4.cell? ⟨wr.heap.size, 0, none⟩ = some (.slice p x.bs.length c) := by rw [hw4]; simp
        have kf1 : w4.cell? ⟨wr.heap.size, 1, none⟩ = some (.int .i64 (x.sy : Int)) := by rw [hw4]; simp
        have own4 := (b4.block (w.heap.size + 1) (by omega)).trans hst.own
        have kB : w4.cell? ⟨w.heap.size + 1, 1, none⟩ = some (.slice pv j cv) := cell_of_own own4 1
        have fB : w4.frozen? ⟨w.heap.size + 1, 1, none⟩ = false := frozen_of_own own4 1
        have HCL := hide (clone_ok (w := w4.drew) p c x.bs ((BytesAt.of_row (own_below hh.row b4)).far (fun _ _ => rfl)) hxl)
        have H5 : Hid (∀ w5, Below w4.heap.size w4 w5 → (w5.cell? ⟨wr.heap.size, 0, none⟩ = some (.slice p x.bs.length c) ∧ w5.cell? ⟨wr.heap.size, 1, none⟩ = some (.int .i64 (x.sy : Int)) ∧ w5.cell? ⟨w.heap.size + 1, 1, none⟩ = some (.slice pv j cv) ∧ w5.frozen? ⟨w.heap.size + 1, 1, none⟩ = false)) := fun w5 hb => ⟨keep1 hb (by omega) kf0, keep1 hb (by omega) kf1, keep1 hb (by omega) kB, keepF hb (by omega) fB⟩
        have H6 : Hid (∀ w5 o6 w6, Below w4.heap.size w4 w5 → (w5.alloc o6).grownBy w6 (Value.slice pv j cv).ownBlock → (w6.cell? ⟨wr.heap.size, 0, none⟩ = some (.slice p x.bs.length c) ∧ w6.cell? ⟨wr.heap.size, 1, none⟩ = some (.int .i64 (x.sy : Int)) ∧ w6.cell? ⟨w.heap.size + 1, 1, none⟩ = some (.slice pv j cv) ∧ w6.frozen? ⟨w.heap.size + 1, 1, none⟩ = false)) := fun w5 o6 w6 hb hg => by
          have h5 := hb.size
          have e1 : w6.heap[wr.heap.size]? = w4.heap[wr.heap.size]? := (own_far hg (by rw [World.size_alloc]; omega) (fun r hr => by have := (hvb r hr).2; omega)).trans ((Below.heap_alloc _ _ _ (by omega)).trans (hb.block _ (by omega)))
          have e2 : w6.heap[w.heap.size + 1]? = w4.heap[w.heap.size + 1]? := (own_far hg (by rw [World.size_alloc]; omega) (fun r hr => by have := (hvb r hr).1; omega)).trans ((Below.heap_alloc _ _ _ (by omega)).trans (hb.block _ (by omega)))
          exact ⟨(World.cell?_of_block (a := ⟨wr.heap.size, 0, none⟩) e1).trans kf0, (World.cell?_of_block (a := ⟨wr.heap.size, 1, none⟩) e1).trans kf1, (World.cell?_of_block (a := ⟨w.heap.size + 1, 1, none⟩) e2).trans kB, (World.frozen?_of_block (a := ⟨w.heap.size + 1, 1, none⟩) e2).trans fB⟩
        have HO5 : Hid (∀ w5 o6, Below w4.heap.size w4 w5 → (w5.alloc o6).ownsRow w3.heap.size 70 3 (.slice pv j cv) j xs) := fun w5 o6 hb => row_far hrow (fun q hq => by
          have h2 := (hvb q hq).2
          have h5 := hb.size
          exact (Below.heap_alloc _ _ _ (by omega)).trans ((hb.block _ (by omega)).trans (b4.block _ (by omega))))
        obtain ⟨i70, hi70, hz70, hs70, hb70⟩ := info_parts info70
        have HI70 := hide hi70; have HZ70 := hide hz70; have HS70 := hide hs70; have HB70 := hide hb70
        have H4 := hide hw4
        have HSTEP : Hid (∀ w5 o6 w6 p2 c2 v', Below w4.heap.size w4 w5 → w5.ownsRow w4.heap.size 5 1 (.slice p2 x.bs.length c2) x.bs.length (bcs x.bs) → (w5.alloc o6).grownBy w6 (Value.slice pv j cv).ownBlock → w6.ownsRow w3.heap.size 70 3 v' (j + 1) (xs ++ [.string s, .slice p2 x.bs.length c2, .int .i64 (x.sy : Int)]) → StW w3 (w6.setCell ⟨w.heap.size + 1, 1, none⟩ v') (w.heap.size + 1) K (j + 1) v') := by
          intro w5 o6 w6 p2 c2 v' h1 h2 h3 h4
          rw [hw4] at h1 h2
          rw [← hes] at h4
          exact hst.step hBl hrow hsc hkx h1 h2 h3 h4
        clear hst hB4 hDr hx1 hx2 hx3 hs hsk hes hget hh hkx hg3 hnm hrow hsc hvb own4 hi70 hz70 hs70 hb70 b4
        clear hw4
        go_wp2_with fail
        rw [← unhide H4]
        go_region_law (first
          | ((refine step_append_lies _ (by rfl) _ _ _ (by rfl) w3.heap.size 70 i70 _ 3 48 Try.underlying29 (unhide HI70) (unhide HZ70) (unhide HS70) (unhide HB70) rfl (by omega) (.slice pv j cv) j xs (by rfl) (unhide HO5 w5 _ (unhide HB5)) ⟨w5.heap.size, 0, none⟩ 1 1 [.string s, .slice p2 x.bs.length c2, .int .i64 (x.sy : Int)] (by rfl) (by rfl) (World.news_of_block (heap_alloc_new w5 _)) (one3 _ _ _ _ _) (by omega) (by unfold maxLen; omega) (by omega) (by rw [World.size_alloc]; have := (unhide HB5).size; omega) _ rfl ?_; intro g6 cap6 w6 hown6 hgr6 hat6 hlt6; obtain ⟨t0, t1, t2, t3⟩ := unhide H6 w5 _ w6 (unhide HB5) hgr6; have u0 := fun v' => (World.cell?_of_block (w := w6) (a := ⟨wr.heap.size, 0, none⟩) (Below.heap_setCell w6 ⟨w.heap.size + 1, 1, none⟩ v' wr.heap.size (by show wr.heap.size ≠ w.heap.size + 1; omega))).trans t0; have u1 := fun v' => (World.cell?_of_block (w := w6) (a := ⟨wr.heap.size, 1, none⟩) (Below.heap_setCell w6 ⟨w.heap.size + 1, 1, none⟩ v' wr.heap.size (by show wr.heap.size ≠ w.heap.size + 1; omega))).trans t1; have O6 := hide hown6; have G6 := hide hgr6; clear hown6 hgr6 hat6 hlt6))
          | ((go_simp; go_at_call 31; refine (unhide HCL).mono ?_; rintro e w5 ⟨⟨p2, c2, rfl, hr5⟩, hb5'⟩; have HB5 : Hid (Below w4.heap.size w4 w5) := ⟨hb5'.os, hb5'.tape, hb5'.output, hb5'.size, hb5'.block⟩; obtain ⟨s0, s1, s2, s3⟩ := unhide H5 w5 (unhide HB5); have s0a := fun o => keep1 (bal (Below.refl w5.heap.size w5) o) (World.block_lt_of_cell? w5 _ s0) s0; have s1a := fun o => keep1 (bal (Below.refl w5.heap.size w5) o) (World.block_lt_of_cell? w5 _ s1) s1; have s2a := fun o => keep1 (bal (Below.refl w5.heap.size w5) o) (World.block_lt_of_cell? w5 _ s2) s2; have R5 := hide hr5; clear hr5 hb5')))
        all_goals go_wp2_with fail
        all_goals exact ⟨⟨j + 1, _, by omega, by go_num, unhide HSTEP w5 _ w6 p2 c2 _ (unhide HB5) (unhide R5) (unhide G6) (unhide O6)⟩, by simp [intOf]; omega⟩
    · have hjL : j = L := by omega
      subst hjL
      have hown := hst.own
      have e0 := cell_of_own hown 0
      have e1 := cell_of_own hown 1
      have e2 := cell_of_own hown 2
      have e3 := cell_of_own hown 3
      have hRw : wr.heap[w.heap.size]? = _ := (hst.block w.heap.size (by omega) (by omega)).trans (unhide hR3)
      have r0 := cell_of_own hRw 0
      have r1 := cell_of_own hRw 1
      have r2 := cell_of_own hRw 2
      have r3 := cell_of_own hRw 3
      have f0 := frozen_of_own hRw 0
      have f1 := frozen_of_own hRw 1
      have f2 := frozen_of_own hRw 2
      have f3 := frozen_of_own hRw 3
      have hwl : w.heap.size < wr.heap.size := by have := hst.size; omega
      clear hst hown hRw
      go_wp2_with fail
      refine bodyPost_ret (ret_state (b := w.heap.size) (a1 := K.cap) (a3 := K.fuse) (a4 := K.down) (p := pv) (m := j) (c := cv) (by rfl) (by go_simp) (by go_simp) (by go_simp) (by go_simp)) rfl ?_
      have hB := (unhide HS).below (unhide B3) (by omega)
      have hfar : ∀ q, w3.heap.size ≤ q → ((((wr.setCell ⟨w.heap.size, 0, none⟩ (.int .i64 K.cap)).setCell ⟨w.heap.size, 1, none⟩ (.slice pv j cv)).setCell ⟨w.heap.size, 2, none⟩ (.int .i64 K.fuse)).setCell ⟨w.heap.size, 3, none⟩ (.bool K.down)).heap[q]? = wr.heap[q]? := fun q hq => by
        rw [Below.heap_setCell _ ⟨w.heap.size, 3, none⟩ _ q (by show q ≠ w.heap.size; omega), Below.heap_setCell _ ⟨w.heap.size, 2, none⟩ _ q (by show q ≠ w.heap.size; omega), Below.heap_setCell _ ⟨w.heap.size, 1, none⟩ _ q (by show q ≠ w.heap.size; omega), Below.heap_setCell _ ⟨w.heap.size, 0, none⟩ _ q (by show q ≠ w.heap.size; omega)]
      obtain ⟨xs, hr, hsc⟩ := (unhide HS).fr
      rw [unhide HL, List.take_length] at hr hsc
      rw [← unhide HL] at hr
      refine ⟨⟨_, rfl, w3.heap.size, by omega, xs, by rw [← unhide HL]; exact row_far hr (fun q hq => hfar q (hr.lt q hq).1), ?_⟩, ?_⟩
      · have := hsc.far (fun q h1 _ _ => hfar q h1)
        simpa using this
      · exact (((hB.setCell (p := ⟨w.heap.size, 0, none⟩) (Nat.le_refl _) _).setCell (p := ⟨w.heap.size, 1, none⟩) (Nat.le_refl _) _).setCell (p := ⟨w.heap.size, 2, none⟩) (Nat.le_refl _) _).setCell (p := ⟨w.heap.size, 3, none⟩) (Nat.le_refl _) _
end Go.Proofs.Ytpeohbkigkfcgaa
