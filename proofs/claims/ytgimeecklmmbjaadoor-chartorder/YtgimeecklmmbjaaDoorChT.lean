/- Kids (18). -/
import Derived.Test.YtgimeecklmmbjaaDoorChS
namespace Go.Proofs.YtgimeecklmmbjaaDoor
open Go Go.Shelf Go.ChangeShapes Go.WideShapes Go.ChangeAt Go.RowKit Go.Maps Go.Sort
set_option linter.unusedVariables false
/-- what Kids answers -/
def KidsOut (W : World) (K : List Nm) (e : Ending) (w' : World) : Prop := Below W.heap.size W w' ∧ ∃ p, e = .returned (.slice p K.length K.length) ∧ ∀ k (hk : k < K.length), ∃ b, p = some ⟨b, 0, none⟩ ∧ W.heap.size ≤ b ∧ b < w'.heap.size ∧ w'.cell? ⟨b, k, none⟩ = some (.string (txN K[k]))
/-- the same, and that the list is the caller's own -/
def KidsOwn (W : World) (K : List Nm) (e : Ending) (w' : World) : Prop := KidsOut W K e w' ∧ ∃ v, e = .returned v ∧ w'.ownsRow W.heap.size 9 1 v K.length (K.map fun x => .string (txN x))
/-- while the names are put into the new block -/
structure Kdr (W X : World) (K : List Nm) (j : Nat) (wr : World) : Prop where
  below : Below X.heap.size X wr
  lt : X.heap.size < wr.heap.size
  fz : ∀ k, wr.frozen? ⟨X.heap.size, k, none⟩ = false
  any : ∀ k, k < K.length → ∃ v, wr.cell? ⟨X.heap.size, k, none⟩ = some v
  cells : ∀ k (hk : k < K.length), k < j → wr.cell? ⟨X.heap.size, k, none⟩ = some (.string (txN K[k]))
  blk : ∃ c, wr.heap[X.heap.size]? = some (.cells c 9) ∧ c.size = K.length
theorem Kdr.step {W X : World} {K : List Nm} {j : Nat} {wr : World} (h : Kdr W X K j wr) (hj : j < K.length) : Kdr W X K (j + 1) (wr.setCell ⟨X.heap.size, j, none⟩ (.string (txN K[j]))) := by
  obtain ⟨v0, hv0⟩ := h.any j hj
  refine ⟨h.below.setCell (Nat.le_refl _) _, by simpa using h.lt, fun k => by simpa using h.fz k, fun k hk => ?_, fun k hk hkj => ?_, ?_⟩
  · by_cases e : k = j
    · subst e
      exact ⟨_, World.cell?_setCell_same _ _ _ hv0⟩
    · rw [World.cell?_setCell_other _ _ _ _ (by intro h'; injection h' with _ h' _; omega)]
      exact h.any k hk
  · by_cases e : k = j
    · subst e
      exact World.cell?_setCell_same _ _ _ hv0
    · rw [World.cell?_setCell_other _ _ _ _ (by intro h'; injection h' with _ h' _; omega)]
      exact h.cells k hk (by omega)
  · obtain ⟨c, h1, h2⟩ := h.blk
    exact ⟨_, heap_set h1 _, by simpa using h2⟩
theorem kids_not {L : List Ac} (hG : Good L) {x : Nm} (h0 : x ≠ []) (hf : fnd L x = none) : kids L x = [] := by
  cases e : kids L x with
  | nil => rfl
  | cons y t =>
    obtain ⟨⟨a, ha, rfl⟩, hp⟩ := mem_kids.1 (show y ∈ kids L x by rw [e]; exact List.mem_cons_self ..)
    exfalso
    rcases ups_cases a.nm with e | ⟨p, e, _, _⟩
    · rw [par, e] at hp
      exact h0 hp.symm
    · rw [par, e] at hp
      have hx : p = x := hp
      obtain ⟨b, hb, hbp, _⟩ := hG.up a ha p _ e
      exact fnd_none hf ⟨b, hb, hbp.trans hx⟩
theorem made48 (X : World) (K : List Nm) (h : K.length ≤ 100) : ∃ W1, (Instr.makeSlice 48 (.int .i64 (K.length : Int)) (.int .i64 (K.length : Int))).run Tryd.prog X = .ok (.slice (some ⟨X.heap.size, 0, none⟩) K.length K.length) W1 ∧ ∀ W, Kdr W X K 0 W1 := by
  obtain ⟨i0, hi, hz0, hz1, hz2⟩ := info_parts info9
  have hmk0 := run_make (P := Tryd.prog) X 48 9 i0 _ Tryd.underlying48 hi hz0 .i64 .i64 (K.length : Int) (K.length : Int) (by omega) (by omega) (by rw [hz2]; omega) (by omega)
  have ec : ((K.length : Int)).toNat = K.length := by omega
  rw [ec] at hmk0
  refine ⟨_, hmk0, fun W => ⟨(Below.refl _ _).alloc (Nat.le_refl _) _, by simp, fun k => by simp, fun k hk => ?_, (fun k hk hk2 => by omega), ⟨_, World.alloc_heap_new _ _, by rw [size_madeCells, hz1]; omega⟩⟩⟩
  rw [World.cell?_alloc_mark]
  exact ⟨_, Array.getElem?_eq_getElem (by rw [size_madeCells, hz1]; omega)⟩
theorem Kdr.out {W X : World} {K : List Nm} {wr : World} (h : Kdr W X K K.length wr) (hk1 : K.length ≤ 100) (hb : Below W.heap.size W X) : KidsOwn W K (.returned (.slice (some ⟨X.heap.size, 0, none⟩) K.length K.length)) wr := by
  refine ⟨⟨hb.trans (h.below.mono hb.size), _, rfl, fun k hk => ⟨_, rfl, hb.size, h.lt, h.cells k hk hk⟩⟩, _, rfl, by simp, .inr ?_⟩
  obtain ⟨c, h1, h2⟩ := h.blk
  refine ⟨_, _, c, rfl, hb.size, h1, Nat.le_refl _, by unfold maxLen; omega, by omega, ?_⟩
  rw [List.take_of_length_le (by simp [h2])]
  refine List.ext_getElem (by simp [h2]) fun k k1 k2 => ?_
  have hk : k < K.length := by simpa using k2
  have hc := h.cells k hk hk
  unfold World.cell? at hc
  simp only [h1] at hc
  have hk3 : k < c.size := by omega
  simp [hk3] at hc
  simp [hc]
set_option maxRecDepth 100000 in
set_option maxHeartbeats 4000000 in
theorem kids_own {W : World} {d : Nat} {S : Nat → Prop} {L : List Ac} {g : Gh} (h : Ct W d S L g) (t : ByteArray) (ht : t.size < 4611686018427387904) :
    Calls Tryd.prog 18 #[ptr d, .string t] W fun e w' => KidsOwn W (kids L t.data.toList) e w' := by
  have dS := hide (seek_any h.ch h.good h.inh t ht)
  have HC := hide h
  obtain ⟨x, hx⟩ : ∃ x, x = t.data.toList := ⟨_, rfl⟩
  rw [← hx] at dS ⊢
  obtain ⟨K, hK⟩ : ∃ K, K = kids L x := ⟨_, rfl⟩
  have hK1 : K.length ≤ 100 := by rw [hK]; exact Nat.le_trans (kids_len L x) h.good.len
  rw [← hK]
  by_cases h0 : x = []
  · have hN : isN L x := .inl h0
    have htx : t = ⟨#[]⟩ := by
      apply empty_of_size
      have := congrArg List.length (hx.symm.trans h0)
      simpa using this
    have hf : fnd L x = none := by
      cases hf : fnd L x with
      | none => rfl
      | some a =>
        obtain ⟨h1, h2⟩ := fnd_some hf
        exact absurd (h2.trans h0) (name_ne (h.good.name a h1))
    rw [seek_none hf] at dS
    have hnd : g.nd x = d := by rw [h0]; exact h.ch.top
    subst htx
    clear h hf h0 hx ht
    go_enter Tryd.func18, Tryd.ntmps18
    go_upto_region 2 with (go_at_call 31; refine (unhide dS).mono ?_; rintro e X ⟨rfl, hb⟩)
    have hCX : Ct X d S L g := (unhide HC).below hb
    have c4 := hCX.ch.kids4 hN
    rw [hnd] at c4
    obtain ⟨W1, hmk, hkd⟩ := made48 X K hK1
    have KD := hide (hkd W)
    have HB := hide hb
    have hz := (unhide HC).inh
    have hrow : Hid (∀ i (hi : i < K.length), ∃ q y, ksl g L x = .slice (some ⟨q, 0, none⟩) K.length (g.kc x) ∧ K[i] = y ∧ X.cell? ⟨q, i, none⟩ = some (ptr (g.nd y)) ∧ X.cell? ⟨g.nd y, 0, none⟩ = some (.string (txN y))) := by
      subst hK
      intro i hi
      rcases hCX.ch.rowK hN with e | ⟨q, e, hr⟩
      · rw [e] at hi
        exact absurd hi (by simp)
      · exact ⟨q, _, e, rfl, hr.row i hi, hr.nam _ (List.getElem_mem hi)⟩
    have hks : ∃ p c, ksl g L x = .slice p K.length c ∧ g.kc x = c := by
      subst hK
      exact ⟨_, _, rfl, rfl⟩
    obtain ⟨p, c, hks, hkc⟩ := hks
    rw [hks] at c4 hrow
    rw [hkc] at hrow
    obtain ⟨n, hn⟩ : ∃ n, K.length = n := ⟨_, rfl⟩
    rw [hn] at c4 hmk hK1
    have HN := hide hn
    have c41 : W1.cell? ⟨d, 4, none⟩ = some (.slice p n c) := ((unhide KD).below.cell (p := ⟨d, 4, none⟩) (World.block_lt_of_cell? X _ c4)).trans c4
    clear hCX hb hkd hz hks hkc hn hK hN hnd
    go_wp2_with fail
    go_loopw [30] (fun v30 wr => ∃ i : Nat, i ≤ n ∧ v30 = .int .i64 i ∧ Hid (Kdr W X K i wr)) (fun v30 _ => n - (intOf' v30).toNat)
    case atStart => exact ⟨0, Nat.zero_le _, rfl, unhide KD⟩
    case round =>
      obtain ⟨i, hi, rfl, hrel⟩ := hrel
      by_cases hlt : i < n
      · have hil : i < K.length := by rw [unhide HN]; exact hlt
        obtain ⟨q, y, hq, hy, hqc, hyc⟩ := unhide hrow i hil
        injection hq with hq _ _
        subst hq
        have bw := (unhide hrel).below
        have hq1 := (bw.cell (p := ⟨q, i, none⟩) (World.block_lt_of_cell? X _ hqc)).trans hqc
        obtain ⟨b, hb⟩ : ∃ b, b = g.nd y := ⟨_, rfl⟩
        rw [← hb] at hq1 hyc
        have hy1 := (bw.cell (p := ⟨b, 0, none⟩) (World.block_lt_of_cell? X _ hyc)).trans hyc
        obtain ⟨v0, hv0⟩ := (unhide hrel).any i hil
        have hfz := (unhide hrel).fz i
        have HST := hide ((unhide hrel).step hil)
        rw [hy] at HST
        obtain ⟨Y, hY⟩ : ∃ Y, Y = txN y := ⟨_, rfl⟩
        rw [← hY] at HST hy1
        have hwi : IntKind.i64.wrap ((i : Int) + 1) = (i : Int) + 1 := wrapI (by omega) (by omega)
        clear hqc hyc bw hb hy hY c4 c41 hil hmk
        go_wp2_with fail
        refine ⟨⟨i + 1, by omega, by simp, unhide HST⟩, ?_⟩
        show n - ((i : Int) + 1).toNat < n - ((i : Int)).toNat
        omega
      · have hin : i = n := by omega
        subst hin
        have hall : Hid (Kdr W X K K.length wr) := by
          rw [unhide HN]
          exact unhide hrel
        clear c4 c41 hmk
        go_wp2_with fail
        go_ret
        have := (unhide hall).out (by rw [unhide HN]; exact hK1) (unhide HB)
        rw [unhide HN] at this
        exact this
  · by_cases hf0 : fnd L x = none
    · rw [seek_none hf0] at dS
      have hK0 : K = [] := by rw [hK]; exact kids_not h.good h0 hf0
      have hne := ne_of_size (s := t) (fun e => h0 (by rw [hx, empty_of_size e]))
      rw [hK0]
      clear hK hK0 hK1 h hf0 h0 hx ht
      go_enter Tryd.func18, Tryd.ntmps18
      go_wp2_with (go_at_call 31; refine (unhide dS).mono ?_; rintro e X ⟨rfl, hb⟩; have HB := hide hb; clear hb)
      go_ret
      exact ⟨⟨unhide HB, none, rfl, fun k hk => absurd hk (by simp)⟩, _, rfl, rfl, .inl ⟨rfl, rfl⟩⟩
    · have hN : isN L x := by
        cases hf : fnd L x with
        | none => exact absurd hf hf0
        | some a =>
          obtain ⟨h1, h2⟩ := fnd_some hf
          exact .inr ⟨a, h1, h2⟩
      have hsk : seekV g L x = ptr (g.nd x) := by
        cases hf : fnd L x with
        | none => exact absurd hf hf0
        | some a => exact seek_some hf
      rw [hsk] at dS
      obtain ⟨d', hnd⟩ : ∃ d', g.nd x = d' := ⟨_, rfl⟩
      rw [hnd] at dS
      have hne := ne_of_size (s := t) (fun e => h0 (by rw [hx, empty_of_size e]))
      clear hsk h hf0 h0 hx ht
      go_enter Tryd.func18, Tryd.ntmps18
      go_upto_region 2 with (go_at_call 31; refine (unhide dS).mono ?_; rintro e X ⟨rfl, hb⟩)
      have hCX : Ct X d S L g := (unhide HC).below hb
      have c4 := hCX.ch.kids4 hN
      rw [hnd] at c4
      obtain ⟨W1, hmk, hkd⟩ := made48 X K hK1
      have KD := hide (hkd W)
      have HB := hide hb
      have hz := (unhide HC).inh
      have hrow : Hid (∀ i (hi : i < K.length), ∃ q y, ksl g L x = .slice (some ⟨q, 0, none⟩) K.length (g.kc x) ∧ K[i] = y ∧ X.cell? ⟨q, i, none⟩ = some (ptr (g.nd y)) ∧ X.cell? ⟨g.nd y, 0, none⟩ = some (.string (txN y))) := by
        subst hK
        intro i hi
        rcases hCX.ch.rowK hN with e | ⟨q, e, hr⟩
        · rw [e] at hi
          exact absurd hi (by simp)
        · exact ⟨q, _, e, rfl, hr.row i hi, hr.nam _ (List.getElem_mem hi)⟩
      have hks : ∃ p c, ksl g L x = .slice p K.length c ∧ g.kc x = c := by
        subst hK
        exact ⟨_, _, rfl, rfl⟩
      obtain ⟨p, c, hks, hkc⟩ := hks
      rw [hks] at c4 hrow
      rw [hkc] at hrow
      obtain ⟨n, hn⟩ : ∃ n, K.length = n := ⟨_, rfl⟩
      rw [hn] at c4 hmk hK1
      have HN := hide hn
      have c41 : W1.cell? ⟨d', 4, none⟩ = some (.slice p n c) := ((unhide KD).below.cell (p := ⟨d', 4, none⟩) (World.block_lt_of_cell? X _ c4)).trans c4
      clear hCX hb hkd hz hks hkc hn hK hN hnd
      go_wp2_with fail
      go_loopw [30] (fun v30 wr => ∃ i : Nat, i ≤ n ∧ v30 = .int .i64 i ∧ Hid (Kdr W X K i wr)) (fun v30 _ => n - (intOf' v30).toNat)
      case atStart => exact ⟨0, Nat.zero_le _, rfl, unhide KD⟩
      case round =>
        obtain ⟨i, hi, rfl, hrel⟩ := hrel
        by_cases hlt : i < n
        · have hil : i < K.length := by rw [unhide HN]; exact hlt
          obtain ⟨q, y, hq, hy, hqc, hyc⟩ := unhide hrow i hil
          injection hq with hq _ _
          subst hq
          have bw := (unhide hrel).below
          have hq1 := (bw.cell (p := ⟨q, i, none⟩) (World.block_lt_of_cell? X _ hqc)).trans hqc
          obtain ⟨b, hb⟩ : ∃ b, b = g.nd y := ⟨_, rfl⟩
          rw [← hb] at hq1 hyc
          have hy1 := (bw.cell (p := ⟨b, 0, none⟩) (World.block_lt_of_cell? X _ hyc)).trans hyc
          obtain ⟨v0, hv0⟩ := (unhide hrel).any i hil
          have hfz := (unhide hrel).fz i
          have HST := hide ((unhide hrel).step hil)
          rw [hy] at HST
          obtain ⟨Y, hY⟩ : ∃ Y, Y = txN y := ⟨_, rfl⟩
          rw [← hY] at HST hy1
          have hwi : IntKind.i64.wrap ((i : Int) + 1) = (i : Int) + 1 := wrapI (by omega) (by omega)
          clear hqc hyc bw hb hy hY c4 c41 hil hmk
          go_wp2_with fail
          refine ⟨⟨i + 1, by omega, by simp, unhide HST⟩, ?_⟩
          show n - ((i : Int) + 1).toNat < n - ((i : Int)).toNat
          omega
        · have hin : i = n := by omega
          subst hin
          have hall : Hid (Kdr W X K K.length wr) := by
            rw [unhide HN]
            exact unhide hrel
          clear c4 c41 hmk
          go_wp2_with fail
          go_ret
          have := (unhide hall).out (by rw [unhide HN]; exact hK1) (unhide HB)
          rw [unhide HN] at this
          exact this
theorem kids_any {W : World} {d : Nat} {S : Nat → Prop} {L : List Ac} {g : Gh} (h : Ct W d S L g) (t : ByteArray) (ht : t.size < 4611686018427387904) :
    Calls Tryd.prog 18 #[ptr d, .string t] W fun e w' => KidsOut W (kids L t.data.toList) e w' := (kids_own h t ht).mono fun _ _ h => h.1
end Go.Proofs.YtgimeecklmmbjaaDoor
