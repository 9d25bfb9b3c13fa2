import Derived.Test.YtdeibifjiefapaaGreatDoorW18
/- chart: From (8). -/
namespace Go.Proofs.YtdeibifjiefapaaGreatDoor
open Go Go.Shelf Go.ChangeShapes Go.WideShapes Go.ChangeAt Go.RowKit Go.Maps Go.Sort
set_option linter.unusedVariables false
theorem fit_fits {L : List Ac} (hG : Good L) {a : Ac} (hf : fitB L a = true) (hr : ∀ b ∈ L, b.nm < a.nm) (hl : L.length < 100) : Fits L a := by
  unfold fitB at hf
  simp only [Bool.and_eq_true, decide_eq_true_eq] at hf
  obtain ⟨⟨hn, hd⟩, hu⟩ := hf
  have hnew : ¬ ∃ b ∈ L, b.nm = a.nm := fun ⟨b, hb, e⟩ => by
    have := hr b hb
    rw [e] at this
    exact slt_irrefl _ this
  rcases ups_cases a.nm with e | ⟨p, e, _⟩
  · rw [e] at hu
    refine ⟨hnew, hn, hd, by simpa using hu, fun p s e2 => ?_, hl⟩
    rw [e] at e2
    cases e2
  · rw [e] at hu
    change (match fnd L p with | none => false | some b => (b.ty == a.ty) && decide (b.dy ≤ a.dy) && (a.cl || !b.cl)) = true at hu
    cases hf : fnd L p with
    | none => rw [hf] at hu; cases hu
    | some b =>
      rw [hf] at hu
      simp only [Bool.and_eq_true, decide_eq_true_eq, beq_iff_eq, Bool.or_eq_true, Bool.not_eq_true'] at hu
      obtain ⟨⟨h1, h2⟩, h3⟩ := hu
      obtain ⟨hbL, hbp⟩ := fnd_some hf
      refine ⟨hnew, hn, hd, by rw [← h1]; exact hG.typ b hbL, fun q s e2 => ?_, hl⟩
      rw [e] at e2
      injection e2 with e3 e4
      refine ⟨b, hbL, hbp.trans e3, h1, h2, fun hc => ?_⟩
      rcases h3 with h3 | h3
      · exact h3
      · rw [hc] at h3; cases h3
theorem insA_last {L : List Ac} {a : Ac} (h : ∀ b ∈ L, b.nm < a.nm) : insA L a = L ++ [a] := by
  unfold insA
  have e1 : (L.filter fun b => decide (b.nm < a.nm)) = L := List.filter_eq_self.2 (fun b hb => by simpa using h b hb)
  have e2 : (L.filter fun b => decide (a.nm < b.nm)) = [] := List.filter_eq_nil_iff.2 (fun b hb hc => by
    have h1 := h b hb
    simp only [decide_eq_true_eq] at hc
    exact slt_irrefl _ (slt_trans h1 hc))
  rw [e1, e2]
/-- the first k accounts of a list are valid -/
def okTo (l : List Ac) (k : Nat) : Prop := ∀ i (h : i < l.length), i < k → (0 < i → (l[i - 1]'(by omega)).nm < l[i].nm) ∧ fitB (l.take i) l[i] = true
def fromOk (l : List Ac) : Prop := l.length ≤ 100 ∧ okTo l l.length
theorem rise_take {l : List Ac} {i : Nat} (hi : i < l.length) (hG : Good (l.take i)) (h : 0 < i → (l[i - 1]'(by omega)).nm < l[i].nm) : ∀ b ∈ l.take i, b.nm < l[i].nm := fun b hb => by
  obtain ⟨j, hj, rfl⟩ := List.getElem_of_mem hb
  rw [List.length_take] at hj
  have h0 := h (by omega)
  rw [List.getElem_take]
  by_cases e : j = i - 1
  · subst e; exact h0
  · have h1 := List.pairwise_iff_getElem.1 hG.rise j (i - 1) (by rw [List.length_take]; omega) (by rw [List.length_take]; omega) (by omega)
    rw [List.getElem_take, List.getElem_take] at h1
    exact slt_trans h1 h0
theorem ins_take {l : List Ac} {i : Nat} (hi : i < l.length) (h : ∀ b ∈ l.take i, b.nm < l[i].nm) : insA (l.take i) l[i] = l.take (i + 1) := by
  rw [insA_last h, List.take_append_getElem]
/-- a list that is valid as a chart's is taken -/
theorem good_ok {l : List Ac} (hG : Good l) : fromOk l := by
  refine ⟨hG.len, fun i hi _ => ⟨fun h0 => List.pairwise_iff_getElem.1 hG.rise (i - 1) i (by omega) hi (by omega), ?_⟩⟩
  obtain ⟨a, ha⟩ : ∃ a, a = l[i] := ⟨_, rfl⟩
  have haL : a ∈ l := by rw [ha]; exact List.getElem_mem hi
  rw [← ha]
  unfold fitB
  rw [hG.name a haL, decide_eq_true (hG.day a haL)]
  simp only [Bool.true_and]
  rcases ups_cases a.nm with e | ⟨p, e, hpl, _⟩
  · rw [e]
    exact decide_eq_true (hG.typ a haL)
  · rw [e]
    change (match fnd (l.take i) p with | none => false | some b => (b.ty == a.ty) && decide (b.dy ≤ a.dy) && (a.cl || !b.cl)) = true
    obtain ⟨b, hb, hbp, h1, h2, h3⟩ := hG.up a haL p _ e
    have hlt : b.nm < a.nm := by
      rw [hbp]
      have hpre : p <+: a.nm := by
        have hc : a.nm.contains 58 = true := by
          by_cases hc : a.nm.contains 58 = true
          · exact hc
          · rw [ups_none _ (by simpa using hc)] at e; cases e
        obtain ⟨j, _, _, hu, _⟩ := ups_some ⟨a.nm.toArray⟩ (by simpa using hc)
        have e5 : (⟨a.nm.toArray⟩ : ByteArray).data.toList = a.nm := by simp
        rw [e5, e] at hu
        injection hu with hu _
        rw [hu]
        exact List.take_prefix _ _
      obtain ⟨t, ht⟩ := hpre
      rw [← ht]
      cases t with
      | nil => exfalso; rw [← ht] at hpl; simp at hpl
      | cons c t =>
        have : ∀ (u v : Nm) (c : UInt8), u < u ++ c :: v := fun u v c => by
          induction u with
          | nil => exact List.Lex.nil
          | cons k u ih => exact List.Lex.cons ih
        exact this p t c
    obtain ⟨j, hj, hjb⟩ := List.getElem_of_mem hb
    have hji : j < i := by
      by_cases hji : j < i
      · exact hji
      · exfalso
        by_cases e6 : j = i
        · have : b = a := by rw [← hjb, ha]; simp only [e6]
          rw [this] at hlt
          exact slt_irrefl _ hlt
        · have := List.pairwise_iff_getElem.1 hG.rise i j hi hj (by omega)
          rw [hjb, ← ha] at this
          exact slt_irrefl _ (slt_trans hlt this)
    have hbt : b ∈ l.take i := by rw [← hjb]; exact List.mem_take_iff_getElem.2 ⟨j, by omega, rfl⟩
    have hf : fnd (l.take i) p = some b := by
      cases hf : fnd (l.take i) p with
      | none => exact absurd ⟨b, hbt, hbp⟩ (fnd_none hf)
      | some c =>
        obtain ⟨hc, hcp⟩ := fnd_some hf
        rw [hG.one (List.mem_of_mem_take hc) hb (hcp.trans hbp.symm)]
    rw [hf]
    simp only [Bool.and_eq_true, decide_eq_true_eq, beq_iff_eq, Bool.or_eq_true, Bool.not_eq_true']
    refine ⟨⟨h1, h2⟩, ?_⟩
    cases hc : b.cl with
    | true => exact .inl (h3 hc)
    | false => exact .inr rfl

def ld41 (x : Value) : Sem Value := Instr.loadAt 65 x
theorem ld41_is (x : Value) : Instr.loadAt 65 x = ld41 x := rfl
theorem run_ld41 {w : World} {b o : Nat} {a : Ac} (h : w.rangeAt b o (vals4 a)) : (ld41 (.pointer (some ⟨b, o, none⟩))).run Tryz.prog w = .ok (acV a) w :=
  run_loadAt_mid (P := Tryz.prog) w b o 65 (vals4 a) _ h Tryz.underlying65 rfl sz41
/-- what From leaves -/
def FromOut (W : World) (l : List Ac) (e : Ending) (w' : World) : Prop :=
  ((fromOk l ∧ ∃ d S g, e = .returned (.tuple #[ptr d, .int .i64 0]) ∧ Ct w' d S l g ∧ ∀ k, S k → W.heap.size ≤ k) ∨ (¬ fromOk l ∧ e = .returned (.tuple #[.pointer none, .int .i64 67]))) ∧ Below W.heap.size W w'
/-- where From stands between two accounts -/
structure Fm (W : World) (l : List Ac) (i : Nat) (X : World) (S : Nat → Prop) (g : Gh) : Prop where
  ct : Ct X W.heap.size S (l.take i) g
  new : ∀ k, S k → W.heap.size ≤ k
  bel : Below W.heap.size W X
  ok : okTo l i

section
attribute [local go_sem ↓] ld41_is
set_option maxRecDepth 100000 in
set_option maxHeartbeats 8000000 in
theorem from_any {W : World} {p : Option Addr} {n c : Nat} {l : List Ac} (hl : l.length = n) (hn : n ≤ 2305843009213693951) (hL : Lies kA W p l) (hsz : ∀ a ∈ l, (txN a.nm).size < 4611686018427387904) :
    Calls Tryz.prog 13 #[.slice p n c] W fun e w' => FromOut W l e w' := by
  by_cases hbig : n ≤ 100
  · have hb1 : ¬ (100 : Int) < (n : Int) := by omega
    have HL := hide hL; have HSZ := hide hsz; have HN := hide hl
    clear hL hsz hl
    have dN := hide (new_any W)
    have F0 : Hid (Fm W l 0 (W.alloc (.cells (cellsA top0 (.slice none 0 0)) 70)) (fun k => k = W.heap.size) (g0 W.heap.size)) := by
      exact ⟨by rw [List.take_zero]; exact new_ct W, fun k hk => by omega, (Below.refl _ W).alloc (Nat.le_refl _) _, fun i hi h => by omega⟩
    go_enter Tryz.func13, Tryz.ntmps13
    go_upto_region 4 with (go_at_call 6; refine (unhide dN).mono ?_; rintro e X0 ⟨rfl, hX0⟩; rw [hX0]; clear hX0 X0)
    go_wp2_with fail
    go_loopw [13] (fun v13 wr => ∃ i : Nat, i ≤ n ∧ v13 = .int .i64 i ∧ Hid (∃ S g, Fm W l i wr S g)) (fun v13 _ => n - (intOf' v13).toNat)
    case atStart => exact ⟨0, Nat.zero_le _, rfl, _, _, unhide F0⟩
    case round =>
      obtain ⟨i, hi, rfl, hrel⟩ := hrel
      by_cases hlt : i < n
      · have hil : i < l.length := by rw [unhide HN]; exact hlt
        obtain ⟨S, g, hfm⟩ := unhide hrel
        obtain ⟨b, off, hp, hbW, hcells⟩ := (unhide HL).2 i hil
        subst hp
        obtain ⟨a, ha⟩ : ∃ a, a = l[i] := ⟨_, rfl⟩
        rw [← ha] at hcells
        have hra : wr.rangeAt b (off + i * 4) (vals4 a) := fun j v hv => (hfm.bel.cell (p := ⟨b, off + i * 4 + j, none⟩) hbW).trans (hcells j v hv)
        have hld := run_ld41 hra
        have hld' : (ld41 (.pointer (some ⟨b, off + i * 4, none⟩))).run Tryz.prog wr = .ok (.agg #[.string (txN a.nm), .int .i64 a.ty, .int .i64 a.dy, .bool a.cl]) wr := hld
        have hkO : ∀ o, (wr.alloc o).heap.size = wr.heap.size + 1 := fun o => by simp
        obtain ⟨Y, hY⟩ : ∃ Y, Y = wr.alloc (.cells #[.string (txN a.nm), .int .i64 a.ty, .int .i64 a.dy, .bool a.cl] 65) := ⟨_, rfl⟩
        have yA : Y.heap[wr.heap.size]? = some (.cells #[.string (txN a.nm), .int .i64 a.ty, .int .i64 a.dy, .bool a.cl] 65) := by rw [hY]; exact World.alloc_heap_new wr _
        have yB : Below wr.heap.size wr Y.drew := by rw [hY]; exact ⟨rfl, rfl, rfl, by show _ ≤ (wr.alloc _).heap.size; simp, fun k hk => Below.heap_alloc wr _ k hk⟩
        have hY0 : Y.drew.cell? ⟨wr.heap.size, 0, none⟩ = some (.string (txN a.nm)) := cell_of (W := Y.drew) yA rfl
        have hY41 : ∀ X, X.heap[wr.heap.size]? = some (.cells #[.string (txN a.nm), .int .i64 a.ty, .int .i64 a.dy, .bool a.cl] 65) → (ld41 (.pointer (some ⟨wr.heap.size, 0, none⟩))).run Tryz.prog X = .ok (.agg #[.string (txN a.nm), .int .i64 a.ty, .int .i64 a.dy, .bool a.cl]) X := fun X hX => run_ld41 (range4 hX)
        have haL : a ∈ l := by rw [ha]; exact List.getElem_mem hil
        have dF := hide (fits_any (hfm.ct.below yB) a (unhide HSZ a haL))
        unfold acV at dF
        have hwi : IntKind.i64.wrap ((i : Int) + 1) = (i : Int) + 1 := wrapI (by omega) (by omega)
        have HFM := hide hfm; have HA := hide ha; have HY41 := hide hY41; have YA := hide yA; have YB := hide yB
        obtain ⟨F, hF⟩ : ∃ F, F = fitB (l.take i) a := ⟨_, rfl⟩
        rw [← hF] at dF
        have HF := hide hF
        have badd : ∀ (r : Prop), (okTo l (i + 1) → r) → True := fun _ _ => trivial
        have hbad : Hid (F = false → ¬ fromOk l) := fun hF0 hok => by
          have := (hok.2 i hil hil).2
          rw [← unhide HA, ← unhide HF, hF0] at this
          cases this
        clear hra hld hcells hfm ha hY41 yA yB hF badd hkO
        have dPut : Hid (F = true → (0 < i → (l[i - 1]'(by omega)).nm < l[i].nm) → ∀ X, Below Y.drew.heap.size Y.drew X → Calls Tryz.prog 77 #[ptr W.heap.size, .agg #[.string (txN a.nm), .int .i64 a.ty, .int .i64 a.dy, .bool a.cl]] X fun e w' => e = .returned (.tuple #[]) ∧ ∃ S' g', Fm W l (i + 1) w' S' g') := fun hF1 hris X hbX => by
          have hyX : Below wr.heap.size wr X := (unhide YB).trans (hbX.mono (unhide YB).size)
          have hctX := (unhide HFM).ct.below hyX
          have hfit : fitB (l.take i) a = true := by rw [← unhide HF]; exact hF1
          have hrt := rise_take hil hctX.good hris
          have hfts := fit_fits hctX.good hfit (by rw [unhide HA]; exact hrt) (by rw [List.length_take]; omega)
          refine (put_any hctX.ch hctX.good hctX.inh hfts).mono ?_
          rintro e w' ⟨he, S', g', hp⟩
          refine ⟨he, S', g', ?_⟩
          have hins : insA (l.take i) a = l.take (i + 1) := by rw [unhide HA]; exact ins_take hil hrt
          have hg2 := hctX.good.ins hfts
          have hch := hp.ch
          rw [hins] at hg2 hch
          have hWX : Below W.heap.size W X := (unhide HFM).bel.trans (hyX.mono (unhide HFM).bel.size)
          refine ⟨⟨hch, hg2, hp.inh⟩, fun k hk => ?_, ⟨hp.fr.os.trans hWX.os, hp.fr.tape.trans hWX.tape, hp.fr.output.trans hWX.output, Nat.le_trans hWX.size hp.fr.size, fun k hk => ?_⟩, fun j hj hji => ?_⟩
          · rcases hp.old k hk with h1 | h1
            · exact (unhide HFM).new k h1
            · exact Nat.le_trans hWX.size h1
          · refine (hp.fr.block k (Nat.lt_of_lt_of_le hk hWX.size) (fun hs => ?_)).trans (hWX.block k hk)
            have := (unhide HFM).new k hs
            omega
          · by_cases e2 : j = i
            · subst e2
              exact ⟨hris, by rw [← unhide HA]; exact hfit⟩
            · exact (unhide HFM).ok j hj (by omega)
        have HY := hide hY
        clear hY
        by_cases hi0 : i = 0
        · subst hi0
          rw [Nat.zero_mul, Nat.add_zero] at hld'
          cases F with
          | false =>
            have ld0 := unhide HY41 Y.drew (unhide YA)
            have HBAD := hide (unhide hbad rfl)
            clear hbad dPut
            go_upto_region 7 with fail
            rw [← unhide HY]
            refine wp_region_last (n := 19) (S := fun W' => (ld41 (.pointer (some ⟨wr.heap.size, 0, none⟩))).run Tryz.prog W' = .ok (.agg #[.string (txN a.nm), .int .i64 a.ty, .int .i64 a.dy, .bool a.cl]) W') (by kernel_rfl) (by exact (unhide HY41 Y.drew (unhide YA))) (fun hHeld => ?_)
            refine tkW 0 ?_; refine tkW 1 ?_; refine tkW 2 ?_; refine tkX 3 ?_; refine tkX 4 ?_; refine tkX 5 ?_; refine tkX 6 ?_; refine tkX 7 ?_; refine tkX 8 ?_; refine tkX 9 ?_; refine tkX 10 ?_; refine tkX 11 ?_; refine tkW 12 ?_; refine tkW 13 ?_; refine tkW 14 ?_; refine tkN 15 ?_
            clear hHeld
            refine wpAnyL_one (i := 16) (by kernel_rfl) rfl (fun KK hK => ?_)
            go_simp
            go_wp2_with (first | (go_at_call 76; refine (unhide dF).mono ?_; rintro e X ⟨rfl, hbX⟩))
            have xA : X.heap[wr.heap.size]? = some (.cells #[.string (txN a.nm), .int .i64 a.ty, .int .i64 a.dy, .bool a.cl] 65) := (hbX.block _ (Array.getElem?_eq_some_iff.1 (unhide YA)).1).trans (unhide YA)
            have xL := unhide HY41 X xA
            have XB := hide hbX
            have XW : Hid (Below W.heap.size W X) := (unhide HFM).bel.trans (((unhide YB).trans (hbX.mono (unhide YB).size)).mono (unhide HFM).bel.size)
            refine hK.out _ _ xL (fun hHeld => ?_)
            clear hK KK hbX
            refine tkW 17 ?_; refine tkW 18 ?_
            clear hHeld
            refine wpAnyL_done (by kernel_rfl) ?_
            go_wp2
            go_ret2
            exact ⟨.inr ⟨unhide HBAD, rfl⟩, unhide XW⟩
          | true =>
            have ld0 := unhide HY41 Y.drew (unhide YA)
            have dPut1 := hide (unhide dPut rfl (fun h => absurd h (by decide)))
            clear hbad dPut
            go_upto_region 7 with fail
            rw [← unhide HY]
            refine wp_region_last (n := 19) (S := fun W' => (ld41 (.pointer (some ⟨wr.heap.size, 0, none⟩))).run Tryz.prog W' = .ok (.agg #[.string (txN a.nm), .int .i64 a.ty, .int .i64 a.dy, .bool a.cl]) W') (by kernel_rfl) (by exact (unhide HY41 Y.drew (unhide YA))) (fun hHeld => ?_)
            refine tkW 0 ?_; refine tkW 1 ?_; refine tkW 2 ?_; refine tkX 3 ?_; refine tkX 4 ?_; refine tkX 5 ?_; refine tkX 6 ?_; refine tkX 7 ?_; refine tkX 8 ?_; refine tkX 9 ?_; refine tkX 10 ?_; refine tkX 11 ?_; refine tkW 12 ?_; refine tkW 13 ?_; refine tkW 14 ?_; refine tkN 15 ?_
            clear hHeld
            refine wpAnyL_one (i := 16) (by kernel_rfl) rfl (fun KK hK => ?_)
            go_simp
            go_wp2_with (first | (go_at_call 76; refine (unhide dF).mono ?_; rintro e X ⟨rfl, hbX⟩))
            have xA : X.heap[wr.heap.size]? = some (.cells #[.string (txN a.nm), .int .i64 a.ty, .int .i64 a.dy, .bool a.cl] 65) := (hbX.block _ (Array.getElem?_eq_some_iff.1 (unhide YA)).1).trans (unhide YA)
            have xL := unhide HY41 X xA
            have XB := hide hbX
            have XW : Hid (Below W.heap.size W X) := (unhide HFM).bel.trans (((unhide YB).trans (hbX.mono (unhide YB).size)).mono (unhide HFM).bel.size)
            refine hK.out _ _ xL (fun hHeld => ?_)
            clear hK KK hbX
            refine tkW 17 ?_; refine tkW 18 ?_
            clear hHeld
            refine wpAnyL_done (by kernel_rfl) ?_
            have dPut2 := hide (unhide dPut1 X (unhide XB))
            go_wp2_with (go_at_call 77; refine (unhide dPut2).mono ?_; rintro e X5 ⟨rfl, hfm5⟩; have HF5 := hide hfm5; clear hfm5)
            refine ⟨⟨0 + 1, by omega, rfl, unhide HF5⟩, ?_⟩
            show n - ((0 : Int) + 1).toNat < n - ((0 : Int)).toNat
            omega
        · have hpos : (0 : Int) < (i : Int) := by omega
          have hposN : 0 < i := by omega
          have hd1 : decide ((0 : Int) < (i : Int)) = true := decide_eq_true hpos
          have hd2 : decide (0 < i) = true := decide_eq_true hposN
          have hw1 : IntKind.i64.wrap ((i : Int) - 1) = ((i - 1 : Nat) : Int) := by rw [wrapI (by omega) (by omega)]; omega
          have hk1 : i - 1 < n := by omega
          obtain ⟨q, hq⟩ : ∃ q, q = (l[i - 1]'(by omega)).nm := ⟨_, rfl⟩
          have hcq : ∀ X, Below W.heap.size W X → X.cell? ⟨b, off + (i - 1) * 4, none⟩ = some (.string (txN q)) := fun X hbX => by
            obtain ⟨b2, off2, hp2, hbW2, hcells2⟩ := (unhide HL).2 (i - 1) (by omega)
            have e2 : b2 = b ∧ off2 = off := by
              injection hp2 with hp2
              injection hp2 with h1 h2
              exact ⟨h1.symm, h2.symm⟩
            obtain ⟨rfl, rfl⟩ := e2
            have := hcells2 0 (.string (txN q)) (by rw [hq]; rfl)
            exact (hbX.cell (p := ⟨b2, off2 + (i - 1) * 4, none⟩) hbW2).trans this
          have yW : Below W.heap.size W Y.drew := (unhide HFM).bel.trans ((unhide YB).mono (unhide HFM).bel.size)
          have hcY := hcq Y.drew yW
          have HCQ := hide hcq; have HQ := hide hq
          have ld0 := unhide HY41 Y.drew (unhide YA)
          have YW := hide yW
          clear hcq hq yW
          have bl1 : Op.bytesLess (txN q).toList (txN a.nm).toList = decide (q < a.nm) := by rw [Go.Proofs.bytesLess_eq, ByteArray.toList_eq, ByteArray.toList_eq, txN_list, txN_list]
          have bl2 : Op.bytesLess a.nm q = decide (a.nm < q) := by rw [Go.Proofs.bytesLess_eq]
          have bl3 : (a.nm == q) = decide (a.nm = q) := by exact Bool.eq_iff_iff.2 (by rw [beq_iff_eq, decide_eq_true_iff])
          by_cases hris : q < a.nm
          · have hris2 : ¬ a.nm < q := fun h => slt_irrefl _ (slt_trans h hris)
            have hris3 : ¬ a.nm = q := fun h => slt_irrefl q (by rw [h] at hris; exact hris)
            rw [decide_eq_true hris] at bl1
            rw [decide_eq_false hris2] at bl2
            rw [decide_eq_false hris3] at bl3
            have HRI : Hid (0 < i → (l[i - 1]'(by omega)).nm < l[i].nm) := fun _ => by rw [← unhide HQ, ← unhide HA]; exact hris
            clear hris hris2 hris3
            cases F with
            | false =>
              have HBAD := hide (unhide hbad rfl)
              clear hbad dPut
              go_upto_region 7 with fail
              rw [← unhide HY]
              refine wp_region_last (n := 19) (S := fun W' => (ld41 (.pointer (some ⟨wr.heap.size, 0, none⟩))).run Tryz.prog W' = .ok (.agg #[.string (txN a.nm), .int .i64 a.ty, .int .i64 a.dy, .bool a.cl]) W' ∧ W'.cell? ⟨wr.heap.size, 0, none⟩ = some (.string (txN a.nm)) ∧ W'.cell? ⟨b, off + (i - 1) * 4, none⟩ = some (.string (txN q))) (by kernel_rfl) (by exact ⟨ld0, hY0, hcY⟩) (fun hHeld => ?_)
              refine tkW 0 ?_; refine tkW 1 ?_; refine tkW 2 ?_; refine tkW 3 ?_; refine tkN 4 ?_; refine tkW 5 ?_; refine tkW 6 ?_; refine tkW 7 ?_; refine tkW 8 ?_; refine tkW 9 ?_; refine tkN 10 ?_; refine tkW 11 ?_; refine tkW 12 ?_; refine tkW 13 ?_; refine tkW 14 ?_; refine tkN 15 ?_
              clear hHeld
              refine wpAnyL_one (i := 16) (by kernel_rfl) rfl (fun KK hK => ?_)
              go_simp
              go_wp2_with (first | (go_at_call 76; refine (unhide dF).mono ?_; rintro e X ⟨rfl, hbX⟩))
              have xA : X.heap[wr.heap.size]? = some (.cells #[.string (txN a.nm), .int .i64 a.ty, .int .i64 a.dy, .bool a.cl] 65) := (hbX.block _ (Array.getElem?_eq_some_iff.1 (unhide YA)).1).trans (unhide YA)
              have xL := unhide HY41 X xA
              have XB := hide hbX
              have XW : Hid (Below W.heap.size W X) := (unhide HFM).bel.trans (((unhide YB).trans (hbX.mono (unhide YB).size)).mono (unhide HFM).bel.size)
              have xq := unhide HCQ X (unhide XW)
              refine hK.out _ _ ⟨xL, cell_of xA rfl, xq⟩ (fun hHeld => ?_)
              clear hK KK hbX
              refine tkW 17 ?_; refine tkW 18 ?_
              clear hHeld
              refine wpAnyL_done (by kernel_rfl) ?_
              go_wp2
              go_ret2
              exact ⟨.inr ⟨unhide HBAD, rfl⟩, unhide XW⟩
            | true =>
              have dPut1 := hide (unhide dPut rfl (unhide HRI))
              clear hbad dPut
              go_upto_region 7 with fail
              rw [← unhide HY]
              refine wp_region_last (n := 19) (S := fun W' => (ld41 (.pointer (some ⟨wr.heap.size, 0, none⟩))).run Tryz.prog W' = .ok (.agg #[.string (txN a.nm), .int .i64 a.ty, .int .i64 a.dy, .bool a.cl]) W' ∧ W'.cell? ⟨wr.heap.size, 0, none⟩ = some (.string (txN a.nm)) ∧ W'.cell? ⟨b, off + (i - 1) * 4, none⟩ = some (.string (txN q))) (by kernel_rfl) (by exact ⟨ld0, hY0, hcY⟩) (fun hHeld => ?_)
              refine tkW 0 ?_; refine tkW 1 ?_; refine tkW 2 ?_; refine tkW 3 ?_; refine tkN 4 ?_; refine tkW 5 ?_; refine tkW 6 ?_; refine tkW 7 ?_; refine tkW 8 ?_; refine tkW 9 ?_; refine tkN 10 ?_; refine tkW 11 ?_; refine tkW 12 ?_; refine tkW 13 ?_; refine tkW 14 ?_; refine tkN 15 ?_
              clear hHeld
              refine wpAnyL_one (i := 16) (by kernel_rfl) rfl (fun KK hK => ?_)
              go_simp
              go_wp2_with (first | (go_at_call 76; refine (unhide dF).mono ?_; rintro e X ⟨rfl, hbX⟩))
              have xA : X.heap[wr.heap.size]? = some (.cells #[.string (txN a.nm), .int .i64 a.ty, .int .i64 a.dy, .bool a.cl] 65) := (hbX.block _ (Array.getElem?_eq_some_iff.1 (unhide YA)).1).trans (unhide YA)
              have xL := unhide HY41 X xA
              have XB := hide hbX
              have XW : Hid (Below W.heap.size W X) := (unhide HFM).bel.trans (((unhide YB).trans (hbX.mono (unhide YB).size)).mono (unhide HFM).bel.size)
              have xq := unhide HCQ X (unhide XW)
              refine hK.out _ _ ⟨xL, cell_of xA rfl, xq⟩ (fun hHeld => ?_)
              clear hK KK hbX
              refine tkW 17 ?_; refine tkW 18 ?_
              clear hHeld
              refine wpAnyL_done (by kernel_rfl) ?_
              have dPut2 := hide (unhide dPut1 X (unhide XB))
              go_wp2_with (go_at_call 77; refine (unhide dPut2).mono ?_; rintro e X5 ⟨rfl, hfm5⟩; have HF5 := hide hfm5; clear hfm5)
              refine ⟨⟨i + 1, by omega, rfl, unhide HF5⟩, ?_⟩
              show n - ((i : Int) + 1).toNat < n - ((i : Int)).toNat
              omega
          · rw [decide_eq_false hris] at bl1
            have hno : Hid (¬ fromOk l) := fun hok => hris (by
              have := (hok.2 i hil hil).1 (by omega)
              rw [← unhide HQ, ← unhide HA] at this
              exact this)
            by_cases hr2 : a.nm < q
            · have hr3 : ¬ a.nm = q := fun h => slt_irrefl q (by rw [h] at hr2; exact hr2)
              rw [decide_eq_true hr2] at bl2
              rw [decide_eq_false hr3] at bl3
              clear hris hr2 hr3 hbad dPut
              go_upto_region 7 with fail
              rw [← unhide HY]
              refine wp_region_last (n := 19) (S := fun W' => (ld41 (.pointer (some ⟨wr.heap.size, 0, none⟩))).run Tryz.prog W' = .ok (.agg #[.string (txN a.nm), .int .i64 a.ty, .int .i64 a.dy, .bool a.cl]) W' ∧ W'.cell? ⟨wr.heap.size, 0, none⟩ = some (.string (txN a.nm)) ∧ W'.cell? ⟨b, off + (i - 1) * 4, none⟩ = some (.string (txN q))) (by kernel_rfl) (by exact ⟨ld0, hY0, hcY⟩) (fun hHeld => ?_)
              refine tkW 0 ?_; refine tkW 1 ?_; refine tkW 2 ?_; refine tkW 3 ?_; refine tkN 4 ?_; refine tkW 5 ?_; refine tkW 6 ?_; refine tkW 7 ?_; refine tkW 8 ?_; refine tkW 9 ?_; refine tkN 10 ?_; refine tkW 11 ?_; refine tkW 12 ?_; refine tkW 13 ?_; refine tkX 14 ?_; refine tkX 15 ?_; refine tkX 16 ?_; refine tkX 17 ?_; refine tkW 18 ?_
              clear hHeld
              refine wpAnyL_done (by kernel_rfl) ?_
              go_wp2
              go_ret2
              exact ⟨.inr ⟨unhide hno, rfl⟩, unhide YW⟩
            · have hr3 : a.nm = q := slt_tri hr2 hris
              rw [decide_eq_false hr2] at bl2
              rw [decide_eq_true hr3] at bl3
              clear hris hr2 hr3 hbad dPut
              go_upto_region 7 with fail
              rw [← unhide HY]
              refine wp_region_last (n := 19) (S := fun W' => (ld41 (.pointer (some ⟨wr.heap.size, 0, none⟩))).run Tryz.prog W' = .ok (.agg #[.string (txN a.nm), .int .i64 a.ty, .int .i64 a.dy, .bool a.cl]) W' ∧ W'.cell? ⟨wr.heap.size, 0, none⟩ = some (.string (txN a.nm)) ∧ W'.cell? ⟨b, off + (i - 1) * 4, none⟩ = some (.string (txN q))) (by kernel_rfl) (by exact ⟨ld0, hY0, hcY⟩) (fun hHeld => ?_)
              refine tkW 0 ?_; refine tkW 1 ?_; refine tkW 2 ?_; refine tkW 3 ?_; refine tkN 4 ?_; refine tkW 5 ?_; refine tkW 6 ?_; refine tkW 7 ?_; refine tkW 8 ?_; refine tkW 9 ?_; refine tkN 10 ?_; refine tkW 11 ?_; refine tkW 12 ?_; refine tkW 13 ?_; refine tkX 14 ?_; refine tkX 15 ?_; refine tkX 16 ?_; refine tkX 17 ?_; refine tkW 18 ?_
              clear hHeld
              refine wpAnyL_done (by kernel_rfl) ?_
              go_wp2
              go_ret2
              exact ⟨.inr ⟨unhide hno, rfl⟩, unhide YW⟩
      · have hin : i = n := by omega
        subst hin
        obtain ⟨S, g, hfm⟩ := unhide hrel
        have HF := hide hfm
        clear hfm
        go_wp2
        go_ret2
        refine ⟨.inl ⟨?_, W.heap.size, S, g, rfl, ?_, (unhide HF).new⟩, (unhide HF).bel⟩
        · refine ⟨by rw [unhide HN]; exact hbig, ?_⟩
          rw [unhide HN]
          exact (unhide HF).ok
        · have := (unhide HF).ct
          rw [List.take_of_length_le (by rw [unhide HN]; exact Nat.le_refl _)] at this
          exact this
  · have hb1 : (100 : Int) < (n : Int) := by omega
    have hno : ¬ fromOk l := fun h => by have := h.1; omega
    have HNO := hide hno
    clear hno hL hsz hl
    go_enter Tryz.func13, Tryz.ntmps13
    go_wp2
    go_ret2
    exact ⟨.inr ⟨unhide HNO, rfl⟩, Below.refl _ _⟩
end
end Go.Proofs.YtdeibifjiefapaaGreatDoor
