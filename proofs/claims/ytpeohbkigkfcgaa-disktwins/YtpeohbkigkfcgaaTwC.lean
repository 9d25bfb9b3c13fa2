/- apart (15): what is written into a state that was handed out is not told by the disk. -/
import Derived.Test.YtpeohbkigkfcgaaTwA
namespace Go.Proofs.Ytpeohbkigkfcgaa
open Go Go.Shelf Go.ChangeShapes Go.WideShapes Go.ChangeAt Go.RowKit Go.Maps Go.Sort
set_option linter.unusedVariables false
/-- a byte is a byte, a text a text, all else the same -/
def CR (v v' : Value) : Prop := (∃ z z', v = .int .u8 z ∧ v' = .int .u8 z') ∨ (∃ s s', v = .string s ∧ v' = .string s') ∨ v' = v
/-- bytes and texts were written in the blocks from lo to hi, and nothing else -/
structure Spo (w4 : World) (lo hi : Nat) (wr : World) : Prop where
  os : wr.os = w4.os
  tape : wr.tape = w4.tape
  output : wr.output = w4.output
  size : wr.heap.size = w4.heap.size
  far : ∀ q, q < lo ∨ hi ≤ q → wr.heap[q]? = w4.heap[q]?
  near : ∀ a v, w4.cell? a = some v → ∃ v', wr.cell? a = some v' ∧ CR v v'
  fz : ∀ a, wr.frozen? a = w4.frozen? a
theorem Spo.refl (w4 : World) (lo hi : Nat) : Spo w4 lo hi w4 := ⟨rfl, rfl, rfl, rfl, fun _ _ => rfl, fun a v h => ⟨v, h, .inr (.inr rfl)⟩, fun _ => rfl⟩
theorem Spo.drew {w4 wr : World} {lo hi : Nat} (h : Spo w4 lo hi wr) : Spo w4 lo hi wr.drew := ⟨h.os, h.tape, h.output, h.size, h.far, h.near, h.fz⟩
theorem Spo.undrew {w4 wr : World} {lo hi : Nat} (h : Spo w4 lo hi wr.drew) : Spo w4 lo hi wr := ⟨h.os, h.tape, h.output, h.size, h.far, h.near, h.fz⟩
theorem Spo.set {w4 wr : World} {lo hi q j : Nat} {v v' : Value} (h : Spo w4 lo hi wr) (hq : lo ≤ q ∧ q < hi) (hv : w4.cell? ⟨q, j, none⟩ = some v) (hc : CR v v') : Spo w4 lo hi (wr.setCell ⟨q, j, none⟩ v') := by
  refine ⟨h.os, h.tape, h.output, by simpa using h.size, fun q' hq' => ?_, fun a u hu => ?_, fun a => by rw [World.frozen?_setCell]; exact h.fz a⟩
  · rw [Below.heap_setCell _ ⟨q, j, none⟩ _ q' (by show q' ≠ q; omega)]
    exact h.far q' hq'
  · by_cases e : (⟨q, j, none⟩ : Addr) = a
    · subst e
      rw [hv] at hu
      have hu := Option.some.inj hu
      subst hu
      obtain ⟨v1, h1, _⟩ := h.near _ _ hv
      exact ⟨v', World.cell?_setCell_same _ _ _ h1, hc⟩
    · rw [World.cell?_setCell_other _ _ _ _ e]
      exact h.near a u hu
theorem Spo.slice {w4 wr : World} {lo hi : Nat} (h : Spo w4 lo hi wr) {a : Addr} {p : Option Addr} {n c : Nat} (hv : w4.cell? a = some (.slice p n c)) : wr.cell? a = some (.slice p n c) := by
  obtain ⟨v', h1, h2⟩ := h.near _ _ hv
  rcases h2 with ⟨z, z', e, _⟩ | ⟨s, s', e, _⟩ | e
  · cases e
  · cases e
  · rw [e] at h1
    exact h1
theorem Spo.byte {w4 wr : World} {lo hi : Nat} (h : Spo w4 lo hi wr) {a : Addr} {z : Int} (hv : w4.cell? a = some (.int .u8 z)) : ∃ z', wr.cell? a = some (.int .u8 z') := by
  obtain ⟨v', h1, h2⟩ := h.near _ _ hv
  rcases h2 with ⟨z, z', e, e'⟩ | ⟨s, s', e, _⟩ | e
  · exact ⟨z', by rw [h1, e']⟩
  · cases e
  · exact ⟨z, by rw [h1, e]⟩
theorem Spo.text {w4 wr : World} {lo hi : Nat} (h : Spo w4 lo hi wr) {a : Addr} {s : ByteArray} (hv : w4.cell? a = some (.string s)) : ∃ s', wr.cell? a = some (.string s') := by
  obtain ⟨v', h1, h2⟩ := h.near _ _ hv
  rcases h2 with ⟨z, z', e, e'⟩ | ⟨s, s', e, e'⟩ | e
  · cases e
  · exact ⟨s', by rw [h1, e']⟩
  · exact ⟨s, by rw [h1, e]⟩
theorem Spo.below {w w4 wr : World} {lo hi : Nat} (h : Spo w4 lo hi wr) (hb : Below w.heap.size w w4) (hl : w.heap.size ≤ lo) : Below w.heap.size w wr :=
  ⟨h.os.trans hb.os, h.tape.trans hb.tape, h.output.trans hb.output, by rw [h.size]; exact hb.size, fun k hk => (h.far k (by omega)).trans (hb.block k hk)⟩
theorem StCells.spot {W : World} {b e : Nat} {A : Fs} {xs : List Value} (h : StCells W b e A xs) : ∀ {i : Nat} {k : List UInt8} {x : Fl}, A[i]? = some (k, x) → ∃ p c, xs[i * 3]? = some (encStr k) ∧ xs[i * 3 + 1]? = some (.slice p x.bs.length c) ∧ (∀ q, (Value.slice p x.bs.length c).ownBlock = some q → b ≤ q ∧ q < e) ∧ W.ownsRow 0 5 1 (.slice p x.bs.length c) x.bs.length (bcs x.bs) := by
  induction h with
  | nil _ => intro i k x h; simp at h
  | cons hr hl hb hs ih =>
    intro i k x h
    cases i with
    | zero =>
      simp only [List.getElem?_cons_zero, Option.some.injEq, Prod.mk.injEq] at h
      obtain ⟨rfl, rfl⟩ := h
      exact ⟨_, _, rfl, rfl, fun q hq => ⟨(hr.lt q hq).1, Nat.lt_of_lt_of_le (hl q hq) hs.le⟩, row_base hr (Nat.zero_le _)⟩
    | succ i =>
      simp only [List.getElem?_cons_succ] at h
      obtain ⟨p, c, h1, h2, h3, h4⟩ := ih h
      refine ⟨p, c, ?_, ?_, fun q hq => ⟨Nat.le_trans hb (h3 q hq).1, (h3 q hq).2⟩, h4⟩
      · rw [show (i + 1) * 3 = i * 3 + 1 + 1 + 1 by omega]; exact h1
      · rw [show (i + 1) * 3 + 1 = (i * 3 + 1) + 1 + 1 + 1 by omega]; exact h2
/-- where a state's bytes lie, and that they may be written -/
theorem FilesRow.spots {W : World} {b e : Nat} {v : Value} {A : Fs} (h : FilesRow W b e v A) {i : Nat} {k : List UInt8} {x : Fl} (hi : A[i]? = some (k, x)) : ∃ g cap p c, v = .slice (some ⟨g, 0, none⟩) A.length cap ∧ b ≤ g ∧ g < W.heap.size ∧ W.cell? ⟨g, i * 3, none⟩ = some (encStr k) ∧ W.frozen? ⟨g, i * 3, none⟩ = false ∧ W.cell? ⟨g, i * 3 + 1, none⟩ = some (.slice p x.bs.length c) ∧
    (0 < x.bs.length → ∃ q, p = some ⟨q, 0, none⟩ ∧ b ≤ q ∧ q < e ∧ ∀ m, m < x.bs.length → (∃ z, W.cell? ⟨q, m, none⟩ = some (.int .u8 z)) ∧ W.frozen? ⟨q, m, none⟩ = false) := by
  obtain ⟨xs, hr, hs⟩ := h
  obtain ⟨p, c, h1, h2, h3, h4⟩ := hs.spot hi
  have hpos : 0 < A.length := by
    rw [List.getElem?_eq_some_iff] at hi
    obtain ⟨hi, _⟩ := hi
    omega
  obtain ⟨g, cap, rfl⟩ := own_open hr hpos
  have hg : W.frozen? ⟨g, i * 3, none⟩ = false := by
    rcases hr.2 with ⟨h5, _⟩ | ⟨g', cap', cur, h5, _, h6, _⟩
    · cases h5
    · injection h5 with h5
      injection h5 with h5
      injection h5 with h5
      subst h5
      exact frozen_of_own h6 _
  refine ⟨g, cap, p, c, rfl, (hr.lt g rfl).1, (hr.lt g rfl).2, ?_, hg, ?_, fun h0 => ?_⟩
  · have := hr.cells (g := g) rfl _ _ h1
    rw [Addr.add_mid, Nat.zero_add] at this
    exact this
  · have := hr.cells (g := g) rfl _ _ h2
    rw [Addr.add_mid, Nat.zero_add] at this
    exact this
  · rcases h4.2 with ⟨_, h5⟩ | ⟨q, cap', cur, h5, _, h6, _⟩
    · omega
    · injection h5 with h5
      subst h5
      refine ⟨q, rfl, (h3 q rfl).1, (h3 q rfl).2, fun m hm => ⟨⟨((x.bs[m]).toNat : Int), ?_⟩, frozen_of_own h6 _⟩⟩
      have := h4.cells (g := q) rfl m _ (bcs_get hm)
      rw [Addr.add_mid, Nat.zero_add] at this
      exact this
theorem FilesRow.spo {w4 wr : World} {lo hi b e : Nat} {v : Value} {A : Fs} (h : FilesRow w4 b e v A) (hs : Spo w4 lo hi wr) (hb : hi ≤ b) : FilesRow wr b e v A := by
  obtain ⟨xs, hr, hc⟩ := h
  exact ⟨xs, row_far hr (fun q hq => hs.far q (by have := (hr.lt q hq).1; omega)), hc.far (fun q h1 _ _ => hs.far q (by omega))⟩
set_option maxRecDepth 100000 in
set_option maxHeartbeats 4000000 in
theorem apart_ok {w : World} {d t N : Nat} {K : Dk} {T : Nat → Prop} (h : DiskOK w t N K T) (hI : Inv K) :
    Calls Try.prog 15 #[.pointer (some ⟨d, 0, none⟩), .pointer (some ⟨t, 0, none⟩)] w fun e w' => e = .returned (.bool true) ∧ Below w.heap.size w w' := by
  obtain ⟨cap, A, fu, dn⟩ := K
  obtain ⟨L, hL⟩ : ∃ L, L = A.length := ⟨_, rfl⟩
  have hm : L ≤ 64 := by rw [hL]; exact hI.many
  have hxl : Hid (∀ (i : Nat) (k : List UInt8) (x : Fl), A[i]? = some (k, x) → x.bs.length ≤ 1048576) := fun i k x hk => by
    have h1 := get_le_tot (get_at hI.ord hk)
    have h2 := hI.tot
    have h3 := hI.cap1
    simp only at h1 h2 h3
    omega
  have HL := hide hL; have HD := hide h; have HI := hide hI
  have TL : Hid (∀ q, T q → q < w.heap.size) := h.sl
  clear hL h hI
  go_enter Try.func15, Try.ntmps15
  go_wp2_with fail
  obtain ⟨mo1, m1, es1, hD1⟩ := unhide HD
  refine (state_ok hD1 (unhide HI)).mono ?_
  rintro e w1 ⟨⟨v1, he1, fb1, hfb1, hfr1⟩, hb1⟩
  have hfr1 : FilesRow w1 fb1 w1.heap.size v1 A := hfr1
  obtain ⟨p1, c1, rfl⟩ := hfr1.form
  have he1 : e = .returned (.agg #[.int .i64 cap, .slice p1 A.length c1, .int .i64 fu, .bool dn]) := he1
  subst he1
  rw [← unhide HL] at hfr1 ⊢
  have z1 := hb1.size
  have F1 := hide hfr1
  have D1 := hide ((unhide HD).below hb1)
  have B1 := hide hb1
  clear hfr1 hb1 hD1
  go_wp2_with fail
  obtain ⟨w2, hw2⟩ : ∃ w2, w2 = w1.alloc (.cells #[.int .i64 cap, .slice p1 L c1, .int .i64 fu, .bool dn] 31) := ⟨_, rfl⟩
  have b2 : Below w1.heap.size w1 w2 := by rw [hw2]; exact bal (Below.refl _ _) _
  have z2 : w2.heap.size = w1.heap.size + 1 := by rw [hw2]; simp
  have a1 : w2.cell? ⟨w1.heap.size, 1, none⟩ = some (.slice p1 L c1) := by rw [hw2, World.cell?_alloc_mark]; rfl
  rw [← hw2]
  clear hw2
  have D2 := hide ((unhide D1).below b2)
  have BB2 := hide b2
  have B2 : Hid (Below w.heap.size w w2) := (unhide B1).trans (b2.mono (unhide B1).size)
  clear b2
  obtain ⟨mo2, m2, es2, hD2⟩ := unhide D2
  refine (state_ok hD2 (unhide HI)).mono ?_
  rintro e w3 ⟨⟨v3, he3, fb3, hfb3, hfr3⟩, hb3⟩
  have hfr3 : FilesRow w3 fb3 w3.heap.size v3 A := hfr3
  obtain ⟨p3, c3, rfl⟩ := hfr3.form
  have he3 : e = .returned (.agg #[.int .i64 cap, .slice p3 A.length c3, .int .i64 fu, .bool dn]) := he3
  subst he3
  rw [← unhide HL] at hfr3 ⊢
  have z3 := hb3.size
  have a3 := keep1 hb3 (by omega) a1
  have F3 := hide hfr3
  have D3 := hide ((unhide D2).below hb3)
  have BB3 : Hid (Below w1.heap.size w1 w3) := (unhide BB2).trans (hb3.mono (by omega))
  have B3 : Hid (Below w.heap.size w w3) := (unhide B2).trans (hb3.mono (unhide B2).size)
  clear hfr3 hb3 hD2 a1
  obtain ⟨w4, hw4⟩ : ∃ w4, w4 = w3.alloc (.cells #[.int .i64 cap, .slice p3 L c3, .int .i64 fu, .bool dn] 31) := ⟨_, rfl⟩
  have b4 : Below w3.heap.size w3 w4 := by rw [hw4]; exact bal (Below.refl _ _) _
  have z4 : w4.heap.size = w3.heap.size + 1 := by rw [hw4]; simp
  have a4 : w4.cell? ⟨w1.heap.size, 1, none⟩ = some (.slice p1 L c1) := keep1 b4 (by omega) a3
  have g0 : w4.cell? ⟨w3.heap.size, 0, none⟩ = some (.int .i64 cap) := by rw [hw4, World.cell?_alloc_mark]; rfl
  have g1 : w4.cell? ⟨w3.heap.size, 1, none⟩ = some (.slice p3 L c3) := by rw [hw4, World.cell?_alloc_mark]; rfl
  have g2 : w4.cell? ⟨w3.heap.size, 2, none⟩ = some (.int .i64 fu) := by rw [hw4, World.cell?_alloc_mark]; rfl
  have g3 : w4.cell? ⟨w3.heap.size, 3, none⟩ = some (.bool dn) := by rw [hw4, World.cell?_alloc_mark]; rfl
  have D4 := hide ((unhide D3).below b4)
  have BB4 : Hid (Below w1.heap.size w1 w4) := (unhide BB3).trans (b4.mono (by omega))
  have B4 : Hid (Below w.heap.size w w4) := (unhide B3).trans (b4.mono (unhide B3).size)
  have F4 := hide ((unhide F3).below (Nat.le_refl _) b4)
  have H4 := hide hw4
  clear hw4 b4 a3
  have G0 := hide g0; have G1 := hide g1; have G2 := hide g2; have G3 := hide g3; have A4 := hide a4
  clear g0 g1 g2 g3 a4
  go_wp2_with fail
  rw [← unhide H4]
  clear H4
  go_loopw [7] (fun u wr => ∃ i : Nat, i ≤ L ∧ u = .int .i64 (i : Int) ∧ Spo w4 fb1 w1.heap.size wr) (fun u _ => L - (intOf u).toNat)
  case atStart => exact ⟨0, Nat.zero_le _, rfl, Spo.refl _ _ _⟩
  case round =>
    obtain ⟨i, hi, rfl, hsp⟩ := hrel
    have HSP := hide hsp
    have c5 : wr.cell? ⟨w1.heap.size, 1, none⟩ = some (.slice p1 L c1) := hsp.slice (unhide A4)
    by_cases hlt : i < L
    · have hkx : ∃ k x, A[i]? = some (k, x) := by
        have : i < A.length := by rw [← unhide HL]; exact hlt
        exact ⟨_, _, List.getElem?_eq_getElem this⟩
      obtain ⟨k, x, hkx⟩ := hkx
      have hbl := unhide hxl i k x hkx
      obtain ⟨g, ca, p, c, ev, hg1, hg2, n0, nf, d0, hq⟩ := (unhide F1).spots hkx
      injection ev with ev eL ev3
      subst ev ev3
      clear eL
      obtain ⟨s, hs⟩ : ∃ s : ByteArray, encStr k = .string s := ⟨_, rfl⟩
      rw [hs] at n0
      have n0 := keep1 (unhide BB4) hg2 n0
      have nf := keepF (unhide BB4) hg2 nf
      have d0 := keep1 (unhide BB4) hg2 d0
      have hq : Hid (0 < x.bs.length → ∃ q, p = some ⟨q, 0, none⟩ ∧ fb1 ≤ q ∧ q < w1.heap.size ∧ ∀ m, m < x.bs.length → (∃ z, w4.cell? ⟨q, m, none⟩ = some (.int .u8 z)) ∧ w4.frozen? ⟨q, m, none⟩ = false) := fun h0 => by
        obtain ⟨q, h1, h2, h3, h4⟩ := hq h0
        refine ⟨q, h1, h2, h3, fun m hm => ?_⟩
        obtain ⟨⟨z, h5⟩, h6⟩ := h4 m hm
        exact ⟨⟨z, keep1 (unhide BB4) h3 h5⟩, keepF (unhide BB4) h3 h6⟩
      obtain ⟨bl, hbld⟩ : ∃ bl, bl = x.bs.length := ⟨_, rfl⟩
      rw [← hbld] at d0 hq hbl
      have N0 := hide n0; have NF := hide nf; have D0 := hide d0
      have i0 : (0 : Int) ≤ (i : Int) := by omega
      have i1 : (i : Int) < (L : Int) := by omega
      clear n0 nf d0 hs hkx hbld hsp
      go_wp2_with fail
      go_loopw [8] (fun u wq => ∃ m : Nat, m ≤ bl ∧ u = .int .i64 (m : Int) ∧ Spo w4 fb1 w1.heap.size wq) (fun u _ => bl - (intOf u).toNat)
      case atStart => exact ⟨0, Nat.zero_le _, rfl, unhide HSP⟩
      case round =>
        obtain ⟨m, hmb, rfl, hsq⟩ := hrel
        have HSQ := hide hsq
        have e5 := hsq.slice (unhide A4)
        have e6 := hsq.slice (unhide D0)
        by_cases hlm : m < bl
        · obtain ⟨q, rfl, hq1, hq2, hqm⟩ := unhide hq (by omega)
          obtain ⟨⟨z0, hz0⟩, hzf⟩ := hqm m hlm
          obtain ⟨z, e7⟩ := hsq.byte hz0
          have e8 := (hsq.fz ⟨q, m, none⟩).trans hzf
          have k0 : (0 : Int) ≤ (m : Int) := by omega
          have k1 : (m : Int) < (bl : Int) := by omega
          have HZ := hide hz0
          clear hsq hqm hz0 hzf
          go_wp2_with fail
          go_region_law fail
          all_goals go_wp2_with fail
          all_goals exact ⟨⟨m + 1, by omega, by go_num, ((unhide HSQ).set ⟨hq1, hq2⟩ (unhide HZ) (.inl ⟨_, _, rfl, rfl⟩)).drew⟩, by simp [intOf]; omega⟩
        · have k1 : ¬ (m : Int) < (bl : Int) := by omega
          obtain ⟨s', e9⟩ := hsq.text (unhide N0)
          have e10 := (hsq.fz ⟨g, i * 3, none⟩).trans (unhide NF)
          clear hsq
          go_wp2_with fail
          exact ⟨⟨i + 1, by omega, by go_num, (unhide HSQ).set ⟨hg1, hg2⟩ (unhide N0) (.inr (.inl ⟨_, _, rfl, rfl⟩))⟩, by simp [intOf]; omega⟩
    · have j1 : ¬ (i : Int) < (L : Int) := by omega
      have hB := (unhide HSP).below (unhide B4) (by omega)
      have hDr : DiskOK wr.drew t N ⟨cap, A, fu, dn⟩ T := by
        obtain ⟨mo, n, es, hD⟩ := unhide D4
        exact ⟨mo, n, es, hD.far (fun q hq => hsp.far q (.inl (by have := unhide TL q hq; omega))) (by show w4.heap.size ≤ wr.heap.size; rw [hsp.size]; exact Nat.le_refl _)⟩
      have HST : Hid (Calls Try.prog 9 #[.pointer (some ⟨t, 0, none⟩)] wr.drew fun e w' => (∃ p c, e = .returned (.agg #[.int .i64 cap, .slice p L c, .int .i64 fu, .bool dn]) ∧ ∃ b, FilesRow w' b w'.heap.size (.slice p L c) A) ∧ Below wr.heap.size wr w') := by
        obtain ⟨mo, n, es, hD⟩ := hDr
        refine (state_ok hD (unhide HI)).mono ?_
        rintro e w' ⟨⟨v, he, b, _, hf⟩, hb⟩
        have hf : FilesRow w' b w'.heap.size v A := hf
        obtain ⟨p, c, rfl⟩ := hf.form
        rw [← unhide HL] at hf he
        exact ⟨⟨p, c, he, b, hf⟩, ⟨hb.os, hb.tape, hb.output, hb.size, hb.block⟩⟩
      have zr : w3.heap.size < wr.heap.size := by rw [hsp.size]; omega
      have r0 : wr.cell? ⟨w3.heap.size, 0, none⟩ = some (.int .i64 cap) := (World.cell?_of_block (a := ⟨w3.heap.size, 0, none⟩) (hsp.far w3.heap.size (.inr (by omega)))).trans (unhide G0)
      have r1 : wr.cell? ⟨w3.heap.size, 1, none⟩ = some (.slice p3 L c3) := (World.cell?_of_block (a := ⟨w3.heap.size, 1, none⟩) (hsp.far w3.heap.size (.inr (by omega)))).trans (unhide G1)
      have r2 : wr.cell? ⟨w3.heap.size, 2, none⟩ = some (.int .i64 fu) := (World.cell?_of_block (a := ⟨w3.heap.size, 2, none⟩) (hsp.far w3.heap.size (.inr (by omega)))).trans (unhide G2)
      have r3 : wr.cell? ⟨w3.heap.size, 3, none⟩ = some (.bool dn) := (World.cell?_of_block (a := ⟨w3.heap.size, 3, none⟩) (hsp.far w3.heap.size (.inr (by omega)))).trans (unhide G3)
      have hF := (unhide F4).spo hsp (by omega)
      have HSAME : Hid (∀ w6 p6 c6 b6, Below wr.heap.size wr w6 → FilesRow w6 b6 w6.heap.size (.slice p6 L c6) A → Calls Try.prog 11 #[.agg #[.int .i64 cap, .slice p3 L c3, .int .i64 fu, .bool dn], .agg #[.int .i64 cap, .slice p6 L c6, .int .i64 fu, .bool dn]] w6 fun e w' => e = .returned (.bool true) ∧ Below w.heap.size w w') := fun w6 p6 c6 b6 hb hf => by
        refine (same_ok cap fu dn (hF.below (by omega) hb) hf (by have := hb.size; omega) (Nat.le_refl _) (unhide HI).many).mono ?_
        rintro e w' ⟨rfl, hb'⟩
        exact ⟨rfl, (hB.trans (hb.mono hB.size)).trans (hb'.mono (Nat.le_trans hB.size hb.size))⟩
      have H5 : Hid (∀ w6, Below wr.heap.size wr w6 → (w6.cell? ⟨w3.heap.size, 0, none⟩ = some (.int .i64 cap) ∧ w6.cell? ⟨w3.heap.size, 1, none⟩ = some (.slice p3 L c3) ∧ w6.cell? ⟨w3.heap.size, 2, none⟩ = some (.int .i64 fu) ∧ w6.cell? ⟨w3.heap.size, 3, none⟩ = some (.bool dn))) := fun w6 hb => ⟨keep1 hb zr r0, keep1 hb zr r1, keep1 hb zr r2, keep1 hb zr r3⟩
      clear hsp hB hDr hF
      go_wp2_with fail
      go_region_law (first
        | ((go_simp; go_at_call 9; refine (unhide HST).mono ?_; rintro e w6 ⟨⟨p6, c6, rfl, b6, hf6⟩, hb6⟩; have HB6 := hide hb6; obtain ⟨s0, s1, s2, s3⟩ := unhide H5 w6 (unhide HB6); have F6 := hide hf6; clear hf6 hb6))
        | ((go_simp; go_at_call 11; refine (unhide HSAME w6 p6 c6 b6 (unhide HB6) (unhide F6)).mono ?_; rintro e w7 ⟨rfl, hb7⟩; have R7 := hide hb7; clear hb7)))
      all_goals go_wp2_with fail
      all_goals go_ret
      all_goals exact ⟨rfl, unhide R7⟩
end Go.Proofs.Ytpeohbkigkfcgaa
