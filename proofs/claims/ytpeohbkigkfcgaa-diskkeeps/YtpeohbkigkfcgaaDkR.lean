/- disk: Crash (25). -/
import Derived.Test.YtpeohbkigkfcgaaDkO
import Derived.Test.YtpeohbkigkfcgaaDkQ
namespace Go.Proofs.Ytpeohbkigkfcgaa
open Go Go.Shelf Go.ChangeShapes Go.WideShapes Go.ChangeAt Go.RowKit Go.Maps Go.Sort
set_option linter.unusedVariables false
/-- whole numbers that lie somewhere -/
def KsAt (W : World) (u : Value) (ks : List Int) : Prop :=
  (u = .slice none 0 0 ∧ ks = []) ∨ ∃ b off c, u = .slice (some ⟨b, off, none⟩) ks.length c ∧ ∀ i k, ks[i]? = some k → W.cell? ⟨b, off + i, none⟩ = some (.int .i64 k)
theorem DiskOK.some {W : World} {d N : Nat} {K : Dk} {S : Nat → Prop} (h : DiskOK W d N K S) (hA : K.A ≠ []) : ∃ b n es, DiskIs W d N K S (some b) n es := by
  obtain ⟨mo, n, es, h⟩ := h
  cases mo with
  | none =>
    rcases h.at'.files with ⟨_, h2⟩ | ⟨b, h1, _⟩
    · injection h2 with h2
      have := h.fs.all.len
      rw [h2] at this
      exact absurd (List.eq_nil_of_length_eq_zero this.symm) hA
    · cases h1
  | some b => exact ⟨b, n, es, h⟩
theorem cut_row {w : World} {p : Option Addr} {c l : Nat} {bs : List UInt8} (h : w.ownsRow 0 5 1 (.slice p bs.length c) bs.length (bcs bs)) (hl : l ≤ bs.length) (hp : p ≠ none) : w.ownsRow 0 5 1 (.slice p (bs.take l).length c) (bs.take l).length (bcs (bs.take l)) := by
  have hlen : (bs.take l).length = l := by rw [List.length_take]; omega
  rw [hlen]
  rcases h.2 with ⟨h1, _⟩ | ⟨g, cap, cur, h1, _⟩
  · injection h1 with h1
    exact absurd h1 hp
  · injection h1 with h1 _ h1c
    subst h1 h1c
    refine row_cut (m := bs.length - l) (ys := (bcs bs).drop l) (by rw [bcs_len, hlen]) ?_
    rw [bcs_take, List.take_append_drop, show l + (bs.length - l) = bs.length by omega]
    exact h
set_option maxRecDepth 100000 in
set_option maxHeartbeats 4000000 in
theorem crash_ok {w : World} {d N : Nat} {K : Dk} {S : Nat → Prop} (h : DiskOK w d N K S) (hN : N < 900000) (hI : Inv K) (pk : Option Addr) (ck : Nat) (ks : List Int) (hk : KsAt w (.slice pk ks.length ck) ks) (hks : ∀ q, (Value.slice pk ks.length ck).ownBlock = some q → ¬ S q) (hkl : ks.length ≤ 4000000000000000000) :
    Calls Try.prog 25 #[.pointer (some ⟨d, 0, none⟩), .slice pk ks.length ck] w fun e w' => (∃ r, e = .returned r) ∧ ∃ S', DiskOK w' d (N + K.A.length) (crashK ks K) S' ∧ Sep w w' S S' := by
  have HD := hide h
  have HI := hide hI
  have HK := hide hk
  have HKS := hide hks
  have hAl := hI.many
  obtain ⟨L, hL⟩ : ∃ L, L = K.A.length := ⟨_, rfl⟩
  rw [← hL] at hAl ⊢
  have HL := hide hL
  have hSl : Hid (∀ q, S q → q < w.heap.size) := by obtain ⟨mo, n, es, h'⟩ := h; exact h'.sl
  clear hI hL hk hks
  obtain ⟨mo, n, es, h⟩ := h
  have HN := hide (names_ok h (unhide HI).ord (by rw [← unhide HL]; exact hAl))
  clear h
  go_enter Try.func25, Try.ntmps25
  go_wp2_with fail
  refine (unhide HN).mono ?_
  rintro e w3 ⟨v0, rfl, hrow, hb3⟩
  rw [← unhide HL] at hrow
  have B3 : Hid (Below w.heap.size w w3) := hb3
  have hz3 : w.heap.size ≤ w3.heap.size := hb3.size
  have hv0 : ∃ p0 c0, v0 = .slice p0 L c0 := by
    rcases hrow.2 with ⟨h1, h2⟩ | ⟨g, cap, cur, h1, _⟩
    · exact ⟨none, 0, by rw [h1, h2]⟩
    · exact ⟨_, _, h1⟩
  obtain ⟨p0, c0, rfl⟩ := hv0
  have HROW := hide hrow
  have S0 : Hid (DiskOK w3 d (N + 0) ⟨K.cap, cutTo ks K.A 0, K.fuse, K.down⟩ S ∧ Sep w3 w3 S S) := ⟨by rw [cutTo_zero]; exact (unhide HD).below hb3, Sep.refl _ _⟩
  clear hrow hb3 HN
  go_wp2_with fail
  go_loopw [11] (fun u wr => ∃ (j : Nat) (S' : Nat → Prop), j ≤ L ∧ u = .int .i64 (j : Int) ∧ DiskOK wr d (N + j) ⟨K.cap, cutTo ks K.A j, K.fuse, K.down⟩ S' ∧ Sep w3 wr S S') (fun u _ => L - (intOf u).toNat)
  case atStart => exact ⟨0, S, Nat.zero_le _, rfl, (unhide S0).1, (unhide S0).2⟩
  case round =>
    obtain ⟨j, S', hj, rfl, hDj, hsep⟩ := hrel
    have HDJ := hide hDj; have HSEP := hide hsep
    by_cases hlt : j < L
    · have hkx : ∃ k x, K.A[j]? = some (k, x) := by
        have : j < K.A.length := by rw [← unhide HL]; exact hlt
        exact ⟨_, _, List.getElem?_eq_getElem this⟩
      obtain ⟨k, x, hkx⟩ := hkx
      have hcx : (cutTo ks K.A j)[j]? = some (k, x) := by rw [cutTo_get, hkx]; simp
      have hget := get_at (cutTo_ord ks j (unhide HI).ord) hcx
      have hgetA := get_at (unhide HI).ord hkx
      have hx1 := get_le_tot hgetA
      have hx2 := (unhide HI).tot
      have hx3 := (unhide HI).cap1
      have hxl : x.bs.length ≤ 1048576 := by omega
      have hsy : x.sy ≤ x.bs.length := (unhide HI).sy _ (get_mem hgetA)
      have hnm := (unhide HI).nm _ (get_mem hgetA)
      obtain ⟨s, hs⟩ : ∃ s : ByteArray, s = ⟨k.toArray⟩ := ⟨_, rfl⟩
      have hsk : s.data.toList = k := by rw [hs]
      have hes : encStr k = .string s := by rw [hs]
      rw [← hs] at hnm
      have hsl : s.size ≤ maxLen := by have := nameS_size hnm; unfold maxLen; omega
      obtain ⟨b, n', es', hD⟩ := hDj.some (by intro e; simp only at e; rw [e] at hcx; simp at hcx)
      rw [← hsk] at hget
      obtain ⟨p, c, lk, hh⟩ := look_file hD hsl hget
      have hS' : ∀ q, q < w3.heap.size → ¬ S q → ¬ S' q := fun q hq hn h' => by
        rcases hsep.new q h' with h1 | h1
        · exact hn h1
        · omega
      have hp0 : ∃ g, p0 = some ⟨g, 0, none⟩ ∧ w.heap.size ≤ g ∧ g < w3.heap.size ∧ w3.cell? ⟨g, j, none⟩ = some (.string s) := by
        have hr := unhide HROW
        rcases hr.2 with ⟨h1, h2⟩ | ⟨g, cap, cur, h1, h2, h3, _⟩
        · omega
        · injection h1 with h1 _ h1c
          subst h1 h1c
          refine ⟨g, rfl, h2, (hr.lt g rfl).2, ?_⟩
          have := hr.cells (g := g) rfl j (.string s) (by rw [List.getElem?_map, List.getElem?_map, hkx]; exact congrArg some hes)
          rw [Addr.add_mid, Nat.zero_add] at this
          exact this
      obtain ⟨g, rfl, hg1, hg2, hg3⟩ := hp0
      have cg : wr.cell? ⟨g, j, none⟩ = some (.string s) := (World.cell?_of_block (a := ⟨g, j, none⟩) (hsep.block g hg2 (fun h' => by have := unhide hSl g h'; omega))).trans hg3
      have cd1 := hD.at'.c1
      have hjw : IntKind.i64.wrap ((j : Int) + 1) = (j : Int) + 1 := by rw [IntKind.wrap_i64]; omega
      have i0 : (0 : Int) ≤ (j : Int) := by omega
      have i1 : (j : Int) < (L : Int) := by omega
      obtain ⟨w4, hw4⟩ : ∃ w4, w4 = wr.alloc (.cells #[.slice p x.bs.length c, .int .i64 (x.sy : Int)] 67) := ⟨_, rfl⟩
      have b4 : Below wr.heap.size wr w4 := by rw [hw4]; exact bal (Below.refl _ _) _
      have kf0 : w4.cell? ⟨wr.heap.size, 0, none⟩ = some (.slice p x.bs.length c) := by rw [hw4]; simp
      have kf1 : w4.cell? ⟨wr.heap.size, 1, none⟩ = some (.int .i64 (x.sy : Int)) := by rw [hw4]; simp
      have hD4 := hD.below b4
      have hh4 := hh.below b4
      have hown := hh4.own hD4
      obtain ⟨l, hl⟩ : ∃ l, l = leftC ks j x := ⟨_, rfl⟩
      have hll : l ≤ x.bs.length := by rw [hl]; exact left_le ks j hsy
      have HP : Hid (∀ W, Below w4.heap.size w4 W → ∀ p5 c5, (p = none → p5 = none ∧ c5 = 0 ∧ l = 0) → (p ≠ none → p5 = p ∧ c5 = c) → Calls Try.prog 37 #[.pointer (some ⟨d, 0, none⟩), .string s, .agg #[.slice p5 l c5, .int .i64 (l : Int)]] W fun e w' => (∃ r, e = .returned r) ∧ ∃ S2, DiskOK w' d (N + (j + 1)) ⟨K.cap, cutTo ks K.A (j + 1), K.fuse, K.down⟩ S2 ∧ Sep w3 w' S S2) := by
        intro W hbW p5 c5 hp1 hp2
        have hcl := cut_len ks j hsy
        rw [← hl] at hcl
        have hrow5 : W.ownsRow 0 5 1 (.slice p5 (cutF ks j x).bs.length c5) (cutF ks j x).bs.length (bcs (cutF ks j x).bs) := by
          by_cases hp : p = none
          · obtain ⟨rfl, rfl, h0⟩ := hp1 hp
            have hbs : (cutF ks j x).bs = [] := List.eq_nil_of_length_eq_zero (by rw [hcl, h0])
            rw [hbs]
            exact World.ownsRow_nil _ _ _ _
          · obtain ⟨rfl, rfl⟩ := hp2 hp
            have := cut_row (hh4.below hbW).row hll hp
            rw [hl] at this
            exact this
        have hcut : cutTo ks K.A (j + 1) = putF s.data.toList (cutF ks j x) (cutTo ks K.A j) := by rw [hsk, cutTo_step ks (unhide HI).ord hkx]
        rw [hcut]
        have hpi := put_is (hD4.below hbW) (by omega) s hsl p5 c5 (cutF ks j x) hrow5 (fun q hq => by
          by_cases hp : p = none
          · obtain ⟨rfl, rfl, h0⟩ := hp1 hp
            cases hq
          · obtain ⟨rfl, rfl⟩ := hp2 hp
            exact hown q (by cases p5 with | none => exact absurd rfl hp | some a => exact hq))
        have hcs : (cutF ks j x).sy = l := by rw [hl]; rfl
        rw [hcl, hcs] at hpi
        refine hpi.mono ?_
        rintro e w' ⟨hr, S2, h1, h2⟩
        exact ⟨hr, S2, h1, ((hsep.trans (Sep.of_below S' b4)).trans (Sep.of_below S' hbW)).trans h2⟩
      have hcap : x.bs.length ≤ c := by
        rcases hh4.row.2 with ⟨h1, h2⟩ | ⟨_, _, _, h1, _, _, h3, _⟩
        · omega
        · injection h1 with _ _ h1c
          omega
      have hpl : Hid (p = none → x.bs.length = 0 ∧ c = 0) := fun e => by
        rcases hh4.row.2 with ⟨h1, h2⟩ | ⟨_, _, _, h1, _⟩
        · injection h1 with _ h1 h1c
          exact ⟨h2, h1c⟩
        · rw [e] at h1; cases h1
      have H4 := hide hw4
      have HLL := hide hl
      have hKr : Hid (KsAt wr (.slice pk ks.length ck) ks) := by
        rcases unhide HK with h1 | ⟨bk, off, ck', h1, h2⟩
        · exact .inl h1
        · refine .inr ⟨bk, off, ck', h1, fun i k' hi => ?_⟩
          have h3 := h2 i k' hi
          have h4 := World.block_lt_of_cell? w _ h3
          have h5 : ¬ S bk := unhide HKS bk (by rw [h1]; rfl)
          exact (World.cell?_of_block (a := ⟨bk, off + i, none⟩) ((hsep.block bk (by exact Nat.lt_of_lt_of_le h4 hz3) h5).trans ((unhide B3).block bk h4))).trans h3
      have B4 := hide b4
      clear hsep hS' hx1 hx2 hx3 hs hsk hes hget hgetA hh hkx hg3 hnm hcx hD hD4 hh4 hown hw4 b4 hl
      have hcc : x.bs.length ≤ c := hcap
      have i2 : (0 : Int) ≤ (l : Int) := by omega
      have i3 : (l : Int) ≤ (c : Int) := by omega
      have i4 : (l : Int) ≤ (x.bs.length : Int) := by omega
      have HP2 : Hid (∀ W, Below w4.heap.size w4 W → Calls Try.prog 37 #[.pointer (some ⟨d, 0, none⟩), .string s, .agg #[.slice p l c, .int .i64 (l : Int)]] W fun e w' => (∃ r, e = .returned r) ∧ ∃ S2, DiskOK w' d (N + (j + 1)) ⟨K.cap, cutTo ks K.A (j + 1), K.fuse, K.down⟩ S2 ∧ Sep w3 w' S S2) := fun W hbW => unhide HP W hbW p c (fun e => ⟨e, (unhide hpl e).2, by have := (unhide hpl e).1; omega⟩) (fun _ => ⟨rfl, rfl⟩)
      by_cases hke : ks = []
      · have hlen0 : ks.length = 0 := by rw [hke]; rfl
        have hl2 : l = x.sy := by rw [unhide HLL]; unfold leftC; rw [if_pos hke]
        subst hl2
        rw [hlen0] at *
        go_wp2_with fail
        rw [← unhide H4]
        refine (unhide HP2 w4 (Below.refl _ _)).mono ?_
        rintro e w5 ⟨⟨rr, rfl⟩, S2, hd5, hs5⟩
        have HF := hide (And.intro hd5 hs5)
        clear hd5 hs5
        go_wp2_with fail
        exact ⟨⟨j + 1, S2, by omega, by go_num, (unhide HF).1, (unhide HF).2⟩, by simp [intOf]; omega⟩
      · obtain ⟨kn, hkn⟩ : ∃ kn, kn = ks.length := ⟨_, rfl⟩
        have hkp : 0 < kn := by
          rcases Nat.eq_zero_or_pos kn with h0 | h0
          · exact absurd (List.eq_nil_of_length_eq_zero (by rw [← hkn]; exact h0)) hke
          · exact h0
        obtain ⟨bk, off, hpk, hcell⟩ : ∃ bk off, pk = some ⟨bk, off, none⟩ ∧ ∀ i k', ks[i]? = some k' → wr.cell? ⟨bk, off + i, none⟩ = some (.int .i64 k') := by
          rcases unhide hKr with ⟨_, h1⟩ | ⟨bk, off, ck', h1, h2⟩
          · exact absurd h1 hke
          · injection h1 with h1 _ _
            exact ⟨bk, off, h1, h2⟩
        subst hpk
        have hmod : j % kn < kn := Nat.mod_lt _ hkp
        obtain ⟨kk, hkk⟩ : ∃ kk, ks[j % kn]? = some kk := ⟨_, List.getElem?_eq_getElem (by rw [← hkn]; exact hmod)⟩
        have hc4 : w4.cell? ⟨bk, off + j % kn, none⟩ = some (.int .i64 kk) := by
          have h1 := hcell _ _ hkk
          exact keep1 (unhide B4) (World.block_lt_of_cell? wr _ h1) h1
        obtain ⟨r, hr⟩ : ∃ r, r = j % kn := ⟨_, rfl⟩
        have htm : (j : Int).tmod (kn : Int) = (r : Int) := by
          rw [hr, Int.tmod_eq_emod_of_nonneg (by omega)]
          exact (Int.natCast_emod j kn).symm
        rw [← hr] at hc4 hmod hkk
        have HLV : Hid ((l : Int) = (x.sy : Int) + min (max kk 0) ((x.bs.length : Int) - (x.sy : Int))) := by
          have h1 := unhide HLL
          unfold leftC at h1
          rw [if_neg hke, ← hkn, ← hr, List.getD_eq_getElem?_getD, hkk] at h1
          simp only [Option.getD_some] at h1
          show (l : Int) = _
          rw [h1]
          omega
        have n1 : ¬ (kn : Int) = 0 := by omega
        have n2 : (0 : Int) < (kn : Int) := by omega
        have n3 : (0 : Int) ≤ (r : Int) := by omega
        have n4 : (r : Int) < (kn : Int) := by omega
        have n5 : (kn == 0) = false := by simp; omega
        rw [← hkn] at *
        clear hcell hke hkk hr
        go_wp2_with fail
        rw [← unhide H4]
        go_region
        rw [← unhide HLV]
        go_wp2_with fail
        refine (unhide HP2 w4.drew (below_drewN (Below.refl _ _) 1)).mono ?_
        rintro e w5 ⟨⟨rr, rfl⟩, S2, hd5, hs5⟩
        have HF := hide (And.intro hd5 hs5)
        clear hd5 hs5
        go_wp2_with fail
        exact ⟨⟨j + 1, S2, by omega, by go_num, (unhide HF).1, (unhide HF).2⟩, by simp [intOf]; omega⟩
    · have hjL : j = L := by omega
      subst hjL
      obtain ⟨mo', n', es', hD⟩ := hDj
      have c2 := hD.at'.c2
      have c3 := hD.at'.c3
      have f2 := hD.fz 2
      have f3 := hD.fz 3
      have HDI := hide hD
      clear hD hsep
      go_wp2_with fail
      go_end0
      refine ⟨⟨_, rfl⟩, S', ⟨mo', n', es', ?_⟩, ((Sep.of_below S (unhide B3)).trans (unhide HSEP)).trans ((Sep.cell _ S' d 2 _ (unhide HDI).sd).trans (Sep.cell _ S' d 3 _ (unhide HDI).sd))⟩
      have := ((unhide HDI).fuse (-1)).downs false
      rw [unhide HL] at this ⊢
      exact this
end Go.Proofs.Ytpeohbkigkfcgaa
