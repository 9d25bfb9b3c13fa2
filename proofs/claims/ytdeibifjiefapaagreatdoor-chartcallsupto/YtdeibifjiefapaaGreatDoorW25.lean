import Derived.Test.YtdeibifjiefapaaGreatDoorW19
import Derived.Laws.StructEq
/- sameAccounts (11). -/
namespace Go.Proofs.YtdeibifjiefapaaGreatDoor
open Go Go.Shelf Go.ChangeShapes Go.WideShapes Go.ChangeAt Go.RowKit Go.Maps Go.Sort
set_option linter.unusedVariables false
theorem st41 : Tryz.prog.underlying 65 = some (.struct (Tryz.prog.fieldsOf 65)) := by kernel_rfl
theorem sh41 : Tryz.prog.stoodInHeld 65 = false := by kernel_rfl
theorem eg41 : Tryz.prog.eqGuardType Tryz.prog.depth 65 = false := by kernel_rfl
theorem fl41 : (Tryz.prog.fieldsOf 65).toList.map (fun f => (f.type, f.offset, f.name == "_")) = [(9, 0, false), (3, 1, false), (3, 2, false), (4, 3, false)] := by kernel_rfl
/-- whether two accounts are one -/
def eqB (x y : Ac) : Bool := (x.nm == y.nm) && (x.ty == y.ty) && (x.dy == y.dy) && (x.cl == y.cl)
theorem eqB_self (x : Ac) : eqB x x = true := by simp [eqB]
theorem eq41 (x y : Ac) (w : World) : (Op.equalIn 10000 65 (acV x) (acV y)).run Tryz.prog w = .ok (eqB x y) w := by
  unfold acV
  rw [run_equalIn_agg w 9999 65 _ _ st41 sh41]
  obtain ⟨f0, f1, f2, f3, hf⟩ : ∃ f0 f1 f2 f3, (Tryz.prog.fieldsOf 65).toList = [f0, f1, f2, f3] := by
    have h := congrArg List.length fl41
    rw [List.length_map] at h
    match hq : (Tryz.prog.fieldsOf 65).toList, h with
    | [a, b, c, d], _ => exact ⟨a, b, c, d, rfl⟩
  have h := fl41
  rw [hf] at h ⊢
  simp at h
  by_cases h1 : x.nm = y.nm
  · by_cases h2 : x.ty = y.ty
    · by_cases h3 : x.dy = y.dy
      · cases h4 : x.cl <;> cases h5 : y.cl <;> simp [Op.eqFields, go_sem, h, Tryz.underlying9, Tryz.underlying3, Tryz.underlying4, eqB, h1, h2, h3, h4, h5]
      · simp [Op.eqFields, go_sem, h, Tryz.underlying9, Tryz.underlying3, Tryz.underlying4, eqB, h1, h2, h3]
    · simp [Op.eqFields, go_sem, h, Tryz.underlying9, Tryz.underlying3, Tryz.underlying4, eqB, h1, h2]
  · simp [Op.eqFields, go_sem, h, Tryz.underlying9, Tryz.underlying3, Tryz.underlying4, eqB, h1]
/-- whether two lists of accounts are alike -/
def sameB : List Ac → List Ac → Bool
  | [], [] => true
  | a :: l, b :: m => eqB a b && sameB l m
  | _, _ => false
theorem sameB_self : ∀ l : List Ac, sameB l l = true
  | [] => rfl
  | a :: l => by rw [sameB, eqB_self, sameB_self l]; rfl
theorem sameB_len : ∀ {l m : List Ac}, l.length ≠ m.length → sameB l m = false
  | [], [], h => absurd rfl h
  | [], b :: m, _ => rfl
  | a :: l, [], _ => rfl
  | a :: l, b :: m, h => by rw [sameB, sameB_len (by simpa using h)]; simp
theorem sameB_at : ∀ {l m : List Ac}, l.length = m.length → ∀ (k : Nat) (h1 : k < l.length) (h2 : k < m.length), eqB l[k] m[k] = false → sameB l m = false
  | [], _, _, k, h1, _, _ => by simp at h1
  | _ :: _, [], h, _, _, _, _ => by simp at h
  | a :: l, b :: m, h, 0, h1, h2, he => by
    have he' : eqB a b = false := he
    rw [sameB, he']
    rfl
  | a :: l, b :: m, h, k + 1, h1, h2, he => by
    rw [sameB, sameB_at (by simpa using h) k (by simpa using h1) (by simpa using h2) he]
    simp
theorem sameB_all : ∀ {l m : List Ac}, l.length = m.length → (∀ (k : Nat) (h1 : k < l.length) (h2 : k < m.length), eqB l[k] m[k] = true) → sameB l m = true
  | [], [], _, _ => rfl
  | [], _ :: _, h, _ => by simp at h
  | _ :: _, [], h, _ => by simp at h
  | a :: l, b :: m, h, he => by
    have h0 : eqB a b = true := he 0 (by simp) (by simp)
    rw [sameB, h0, sameB_all (by simpa using h) (fun k h1 h2 => he (k + 1) (by simpa using h1) (by simpa using h2))]
    rfl
theorem lies_ld {W : World} {p : Option Addr} {l : List Ac} (h : Lies kA W p l) {k : Nat} (hk : k < l.length) : ∃ b off, p = some ⟨b, off, none⟩ ∧ ∀ d', (ld41 (.pointer (some ⟨b, off + k * 4, none⟩))).run Tryz.prog (W.drewN d') = .ok (acV l[k]) (W.drewN d') := by
  obtain ⟨b, off, hp, hbW, hc⟩ := h.2 k hk
  exact ⟨b, off, hp, fun d' => run_ld41 (w := W.drewN d') (fun j v hv => hc j v hv)⟩
section
attribute [local go_sem ↓] ld41_is
set_option maxRecDepth 100000 in
set_option maxHeartbeats 4000000 in
theorem same_any {W : World} {p1 p2 : Option Addr} {n1 n2 c1 c2 : Nat} {l m : List Ac} (h1 : l.length = n1) (h2 : m.length = n2) (hn : n1 ≤ 2305843009213693951) (H1 : Lies kA W p1 l) (H2 : Lies kA W p2 m) :
    Calls Tryz.prog 28 #[.slice p1 n1 c1, .slice p2 n2 c2] W fun e w' => e = .returned (.bool (sameB l m)) ∧ ∃ d, w' = W.drewN d := by
  obtain ⟨R, hR⟩ : ∃ R, R = sameB l m := ⟨_, rfl⟩
  rw [← hR]
  by_cases hne : n1 = n2
  · subst hne
    have HH1 := hide H1; have HH2 := hide H2; have HL1 := hide h1; have HL2 := hide h2; have HR := hide hR
    clear H1 H2 h1 h2 hR
    have hst := st41
    have hsh := sh41
    have heg := eg41
    have heq := eq41
    go_enter Tryz.func28, Tryz.ntmps28
    go_wp2_with fail
    go_loopw [5] (fun i wr => ∃ (k d : Nat), i = .int .i64 k ∧ k ≤ n1 ∧ Hid (wr = W.drewN d) ∧ Hid (∀ (j : Nat) (g1 : j < l.length) (g2 : j < m.length), j < k → eqB l[j] m[j] = true)) (fun i _ => n1 - (intOf' i).toNat)
    case atStart => exact ⟨0, 0, rfl, by omega, rfl, fun j _ _ hj => by omega⟩
    case round =>
      obtain ⟨k, d, rfl, hk, hw, hall⟩ := hrel
      by_cases hlt : k < n1
      · have k1 : k < l.length := by rw [unhide HL1]; exact hlt
        have k2 : k < m.length := by rw [unhide HL2]; exact hlt
        obtain ⟨b1, o1, e1, r1⟩ := lies_ld (unhide HH1) k1
        obtain ⟨b2, o2, e2, r2⟩ := lies_ld (unhide HH2) k2
        subst e1 e2
        obtain ⟨x, hx⟩ : ∃ x, x = l[k] := ⟨_, rfl⟩
        obtain ⟨y, hy⟩ : ∃ y, y = m[k] := ⟨_, rfl⟩
        rw [← hx] at r1
        rw [← hy] at r2
        have l1 : ∀ d', (ld41 (.pointer (some ⟨b1, o1 + k * 4, none⟩))).run Tryz.prog (wr.drewN d') = .ok (acV x) (wr.drewN d') := fun d' => by rw [unhide hw, drew_two]; exact r1 _
        have l2 : ∀ d', (ld41 (.pointer (some ⟨b2, o2 + k * 4, none⟩))).run Tryz.prog (wr.drewN d') = .ok (acV y) (wr.drewN d') := fun d' => by rw [unhide hw, drew_two]; exact r2 _
        have HX := hide hx; have HYY := hide hy
        clear r1 r2 hx hy
        have hwk : IntKind.i64.wrap ((k : Int) + 1) = (k : Int) + 1 := wrapI (by omega) (by omega)
        cases hb : eqB x y with
        | true =>
          have hb2 : ∀ w, (Op.equalIn 10000 65 (acV x) (acV y)).run Tryz.prog w = .ok true w := fun w => by rw [heq, hb]
          have HB := hide hb
          unfold acV at l1 l2 hb2
          clear hb heq
          go_wp2_with fail
          go_quiet (fail)
          go_wp2_with fail
          refine ⟨⟨k + 1, d + nq, by simp, by omega, ?_, fun j g1 g2 hj => ?_⟩, by simp [intOf']; omega⟩
          · show _ = _
            rw [unhide hw, drew_two]
          · by_cases e : j = k
            · subst e
              rw [← unhide HX, ← unhide HYY]
              exact unhide HB
            · exact unhide hall j g1 g2 (by omega)
        | false =>
          have hb2 : ∀ w, (Op.equalIn 10000 65 (acV x) (acV y)).run Tryz.prog w = .ok false w := fun w => by rw [heq, hb]
          have hRf : R = false := by
            rw [unhide HR]
            exact sameB_at (by rw [unhide HL1, unhide HL2]) k k1 k2 (by rw [← unhide HX, ← unhide HYY]; exact hb)
          subst hRf
          unfold acV at l1 l2 hb2
          clear hb heq
          go_wp2_with fail
          go_quiet (fail)
          go_wp2_with fail
          go_ret
          exact ⟨rfl, d + nq, by rw [unhide hw, drew_two]⟩
      · have hkn : k = n1 := by omega
        subst hkn
        have hRt : R = true := by
          rw [unhide HR]
          exact sameB_all (by rw [unhide HL1, unhide HL2]) (fun j g1 g2 => unhide hall j g1 g2 (by rw [unhide HL1] at g1; exact g1))
        subst hRt
        go_wp2_with fail
        go_ret
        exact ⟨rfl, d, unhide hw⟩
  · have hne3 : ¬ ((n1 : Int) = (n2 : Int)) := by omega
    have hne2 : ((n1 : Int) == (n2 : Int)) = false := by simpa using hne3
    have hRf : R = false := by rw [hR]; exact sameB_len (by omega)
    subst hRf
    clear hR H1 H2
    go_enter Tryz.func28, Tryz.ntmps28
    go_wp2
    go_ret
    exact ⟨rfl, 0, rfl⟩
end
end Go.Proofs.YtdeibifjiefapaaGreatDoor
/- Kids (18). -/
namespace Go.Proofs.YtdeibifjiefapaaGreatDoor
open Go Go.Shelf Go.ChangeShapes Go.WideShapes Go.ChangeAt Go.RowKit Go.Maps Go.Sort
set_option linter.unusedVariables false
/-- what Kids answers -/
def KidsOut (W : World) (K : List Nm) (e : Ending) (w' : World) : Prop := Below W.heap.size W w' ∧ ∃ p, e = .returned (.slice p K.length K.length) ∧ ∀ k (hk : k < K.length), ∃ b, p = some ⟨b, 0, none⟩ ∧ W.heap.size ≤ b ∧ b < w'.heap.size ∧ w'.cell? ⟨b, k, none⟩ = some (.string (txN K[k]))
/-- the same, and that the list is the caller's own -/
def KidsOwn (W : World) (K : List Nm) (e : Ending) (w' : World) : Prop := KidsOut W K e w' ∧ ∃ v, e = .returned v ∧ w'.ownsRow W.heap.size 9 1 v K.length (K.map fun x => .string (txN x))
/-- while the names are put into the new block -/
structure Kdr (W X : World) (K : List Nm) (j : Nat) (wr : World) : Prop where
  below : Below X.heap.size X wr
  lt : X.heap.size < wr.heap.size
  fz : ∀ k, wr.frozen? ⟨X.heap.size, k, none⟩ = false
  any : ∀ k, k < K.length → ∃ v, wr.cell? ⟨X.heap.size, k, none⟩ = some v
  cells : ∀ k (hk : k < K.length), k < j → wr.cell? ⟨X.heap.size, k, none⟩ = some (.string (txN K[k]))
  blk : ∃ c, wr.heap[X.heap.size]? = some (.cells c 9) ∧ c.size = K.length
theorem Kdr.step {W X : World} {K : List Nm} {j : Nat} {wr : World} (h : Kdr W X K j wr) (hj : j < K.length) : Kdr W X K (j + 1) (wr.setCell ⟨X.heap.size, j, none⟩ (.string (txN K[j]))) := by
  obtain ⟨v0, hv0⟩ := h.any j hj
  refine ⟨h.below.setCell (Nat.le_refl _) _, by simpa using h.lt, fun k => by simpa using h.fz k, fun k hk => ?_, fun k hk hkj => ?_, ?_⟩
  · by_cases e : k = j
    · subst e
      exact ⟨_, World.cell?_setCell_same _ _ _ hv0⟩
    · rw [World.cell?_setCell_other _ _ _ _ (by intro h'; injection h' with _ h' _; omega)]
      exact h.any k hk
  · by_cases e : k = j
    · subst e
      exact World.cell?_setCell_same _ _ _ hv0
    · rw [World.cell?_setCell_other _ _ _ _ (by intro h'; injection h' with _ h' _; omega)]
      exact h.cells k hk (by omega)
  · obtain ⟨c, h1, h2⟩ := h.blk
    exact ⟨_, heap_set h1 _, by simpa using h2⟩
theorem kids_not {L : List Ac} (hG : Good L) {x : Nm} (h0 : x ≠ []) (hf : fnd L x = none) : kids L x = [] := by
  cases e : kids L x with
  | nil => rfl
  | cons y t =>
    obtain ⟨⟨a, ha, rfl⟩, hp⟩ := mem_kids.1 (show y ∈ kids L x by rw [e]; exact List.mem_cons_self ..)
    exfalso
    rcases ups_cases a.nm with e | ⟨p, e, _, _⟩
    · rw [par, e] at hp
      exact h0 hp.symm
    · rw [par, e] at hp
      have hx : p = x := hp
      obtain ⟨b, hb, hbp, _⟩ := hG.up a ha p _ e
      exact fnd_none hf ⟨b, hb, hbp.trans hx⟩
theorem made48 (X : World) (K : List Nm) (h : K.length ≤ 100) : ∃ W1, (Instr.makeSlice 85 (.int .i64 (K.length : Int)) (.int .i64 (K.length : Int))).run Tryz.prog X = .ok (.slice (some ⟨X.heap.size, 0, none⟩) K.length K.length) W1 ∧ ∀ W, Kdr W X K 0 W1 := by
  obtain ⟨i0, hi, hz0, hz1, hz2⟩ := info_parts info9
  have hmk0 := run_make (P := Tryz.prog) X 85 9 i0 _ Tryz.underlying85 hi hz0 .i64 .i64 (K.length : Int) (K.length : Int) (by omega) (by omega) (by rw [hz2]; omega) (by omega)
  have ec : ((K.length : Int)).toNat = K.length := by omega
  rw [ec] at hmk0
  refine ⟨_, hmk0, fun W => ⟨(Below.refl _ _).alloc (Nat.le_refl _) _, by simp, fun k => by simp, fun k hk => ?_, (fun k hk hk2 => by omega), ⟨_, World.alloc_heap_new _ _, by rw [size_madeCells, hz1]; omega⟩⟩⟩
  rw [World.cell?_alloc_mark]
  exact ⟨_, Array.getElem?_eq_getElem (by rw [size_madeCells, hz1]; omega)⟩
theorem Kdr.out {W X : World} {K : List Nm} {wr : World} (h : Kdr W X K K.length wr) (hk1 : K.length ≤ 100) (hb : Below W.heap.size W X) : KidsOwn W K (.returned (.slice (some ⟨X.heap.size, 0, none⟩) K.length K.length)) wr := by
  refine ⟨⟨hb.trans (h.below.mono hb.size), _, rfl, fun k hk => ⟨_, rfl, hb.size, h.lt, h.cells k hk hk⟩⟩, _, rfl, by simp, .inr ?_⟩
  obtain ⟨c, h1, h2⟩ := h.blk
  refine ⟨_, _, c, rfl, hb.size, h1, Nat.le_refl _, by unfold maxLen; omega, by omega, ?_⟩
  rw [List.take_of_length_le (by simp [h2])]
  refine List.ext_getElem (by simp [h2]) fun k k1 k2 => ?_
  have hk : k < K.length := by simpa using k2
  have hc := h.cells k hk hk
  unfold World.cell? at hc
  simp only [h1] at hc
  have hk3 : k < c.size := by omega
  simp [hk3] at hc
  simp [hc]
set_option maxRecDepth 100000 in
set_option maxHeartbeats 4000000 in
theorem kids_own {W : World} {d : Nat} {S : Nat → Prop} {L : List Ac} {g : Gh} (h : Ct W d S L g) (t : ByteArray) (ht : t.size < 4611686018427387904) :
    Calls Tryz.prog 24 #[ptr d, .string t] W fun e w' => KidsOwn W (kids L t.data.toList) e w' := by
  have dS := hide (seek_any h.ch h.good h.inh t ht)
  have HC := hide h
  obtain ⟨x, hx⟩ : ∃ x, x = t.data.toList := ⟨_, rfl⟩
  rw [← hx] at dS ⊢
  obtain ⟨K, hK⟩ : ∃ K, K = kids L x := ⟨_, rfl⟩
  have hK1 : K.length ≤ 100 := by rw [hK]; exact Nat.le_trans (kids_len L x) h.good.len
  rw [← hK]
  by_cases h0 : x = []
  · have hN : isN L x := .inl h0
    have htx : t = ⟨#[]⟩ := by
      apply empty_of_size
      have := congrArg List.length (hx.symm.trans h0)
      simpa using this
    have hf : fnd L x = none := by
      cases hf : fnd L x with
      | none => rfl
      | some a =>
        obtain ⟨h1, h2⟩ := fnd_some hf
        exact absurd (h2.trans h0) (name_ne (h.good.name a h1))
    rw [seek_none hf] at dS
    have hnd : g.nd x = d := by rw [h0]; exact h.ch.top
    subst htx
    clear h hf h0 hx ht
    go_enter Tryz.func24, Tryz.ntmps24
    go_upto_region 2 with (go_at_call 83; refine (unhide dS).mono ?_; rintro e X ⟨rfl, hb⟩)
    have hCX : Ct X d S L g := (unhide HC).below hb
    have c4 := hCX.ch.kids4 hN
    rw [hnd] at c4
    obtain ⟨W1, hmk, hkd⟩ := made48 X K hK1
    have KD := hide (hkd W)
    have HB := hide hb
    have hz := (unhide HC).inh
    have hrow : Hid (∀ i (hi : i < K.length), ∃ q y, ksl g L x = .slice (some ⟨q, 0, none⟩) K.length (g.kc x) ∧ K[i] = y ∧ X.cell? ⟨q, i, none⟩ = some (ptr (g.nd y)) ∧ X.cell? ⟨g.nd y, 0, none⟩ = some (.string (txN y))) := by
      subst hK
      intro i hi
      rcases hCX.ch.rowK hN with e | ⟨q, e, hr⟩
      · rw [e] at hi
        exact absurd hi (by simp)
      · exact ⟨q, _, e, rfl, hr.row i hi, hr.nam _ (List.getElem_mem hi)⟩
    have hks : ∃ p c, ksl g L x = .slice p K.length c ∧ g.kc x = c := by
      subst hK
      exact ⟨_, _, rfl, rfl⟩
    obtain ⟨p, c, hks, hkc⟩ := hks
    rw [hks] at c4 hrow
    rw [hkc] at hrow
    obtain ⟨n, hn⟩ : ∃ n, K.length = n := ⟨_, rfl⟩
    rw [hn] at c4 hmk hK1
    have HN := hide hn
    have c41 : W1.cell? ⟨d, 4, none⟩ = some (.slice p n c) := ((unhide KD).below.cell (p := ⟨d, 4, none⟩) (World.block_lt_of_cell? X _ c4)).trans c4
    clear hCX hb hkd hz hks hkc hn hK hN hnd
    go_wp2_with fail
    go_loopw [30] (fun v30 wr => ∃ i : Nat, i ≤ n ∧ v30 = .int .i64 i ∧ Hid (Kdr W X K i wr)) (fun v30 _ => n - (intOf' v30).toNat)
    case atStart => exact ⟨0, Nat.zero_le _, rfl, unhide KD⟩
    case round =>
      obtain ⟨i, hi, rfl, hrel⟩ := hrel
      by_cases hlt : i < n
      · have hil : i < K.length := by rw [unhide HN]; exact hlt
        obtain ⟨q, y, hq, hy, hqc, hyc⟩ := unhide hrow i hil
        injection hq with hq _ _
        subst hq
        have bw := (unhide hrel).below
        have hq1 := (bw.cell (p := ⟨q, i, none⟩) (World.block_lt_of_cell? X _ hqc)).trans hqc
        obtain ⟨b, hb⟩ : ∃ b, b = g.nd y := ⟨_, rfl⟩
        rw [← hb] at hq1 hyc
        have hy1 := (bw.cell (p := ⟨b, 0, none⟩) (World.block_lt_of_cell? X _ hyc)).trans hyc
        obtain ⟨v0, hv0⟩ := (unhide hrel).any i hil
        have hfz := (unhide hrel).fz i
        have HST := hide ((unhide hrel).step hil)
        rw [hy] at HST
        obtain ⟨Y, hY⟩ : ∃ Y, Y = txN y := ⟨_, rfl⟩
        rw [← hY] at HST hy1
        have hwi : IntKind.i64.wrap ((i : Int) + 1) = (i : Int) + 1 := wrapI (by omega) (by omega)
        clear hqc hyc bw hb hy hY c4 c41 hil hmk
        go_wp2_with fail
        refine ⟨⟨i + 1, by omega, by simp, unhide HST⟩, ?_⟩
        show n - ((i : Int) + 1).toNat < n - ((i : Int)).toNat
        omega
      · have hin : i = n := by omega
        subst hin
        have hall : Hid (Kdr W X K K.length wr) := by
          rw [unhide HN]
          exact unhide hrel
        clear c4 c41 hmk
        go_wp2_with fail
        go_ret
        have := (unhide hall).out (by rw [unhide HN]; exact hK1) (unhide HB)
        rw [unhide HN] at this
        exact this
  · by_cases hf0 : fnd L x = none
    · rw [seek_none hf0] at dS
      have hK0 : K = [] := by rw [hK]; exact kids_not h.good h0 hf0
      have hne := ne_of_size (s := t) (fun e => h0 (by rw [hx, empty_of_size e]))
      rw [hK0]
      clear hK hK0 hK1 h hf0 h0 hx ht
      go_enter Tryz.func24, Tryz.ntmps24
      go_wp2_with (go_at_call 83; refine (unhide dS).mono ?_; rintro e X ⟨rfl, hb⟩; have HB := hide hb; clear hb)
      go_ret
      exact ⟨⟨unhide HB, none, rfl, fun k hk => absurd hk (by simp)⟩, _, rfl, rfl, .inl ⟨rfl, rfl⟩⟩
    · have hN : isN L x := by
        cases hf : fnd L x with
        | none => exact absurd hf hf0
        | some a =>
          obtain ⟨h1, h2⟩ := fnd_some hf
          exact .inr ⟨a, h1, h2⟩
      have hsk : seekV g L x = ptr (g.nd x) := by
        cases hf : fnd L x with
        | none => exact absurd hf hf0
        | some a => exact seek_some hf
      rw [hsk] at dS
      obtain ⟨d', hnd⟩ : ∃ d', g.nd x = d' := ⟨_, rfl⟩
      rw [hnd] at dS
      have hne := ne_of_size (s := t) (fun e => h0 (by rw [hx, empty_of_size e]))
      clear hsk h hf0 h0 hx ht
      go_enter Tryz.func24, Tryz.ntmps24
      go_upto_region 2 with (go_at_call 83; refine (unhide dS).mono ?_; rintro e X ⟨rfl, hb⟩)
      have hCX : Ct X d S L g := (unhide HC).below hb
      have c4 := hCX.ch.kids4 hN
      rw [hnd] at c4
      obtain ⟨W1, hmk, hkd⟩ := made48 X K hK1
      have KD := hide (hkd W)
      have HB := hide hb
      have hz := (unhide HC).inh
      have hrow : Hid (∀ i (hi : i < K.length), ∃ q y, ksl g L x = .slice (some ⟨q, 0, none⟩) K.length (g.kc x) ∧ K[i] = y ∧ X.cell? ⟨q, i, none⟩ = some (ptr (g.nd y)) ∧ X.cell? ⟨g.nd y, 0, none⟩ = some (.string (txN y))) := by
        subst hK
        intro i hi
        rcases hCX.ch.rowK hN with e | ⟨q, e, hr⟩
        · rw [e] at hi
          exact absurd hi (by simp)
        · exact ⟨q, _, e, rfl, hr.row i hi, hr.nam _ (List.getElem_mem hi)⟩
      have hks : ∃ p c, ksl g L x = .slice p K.length c ∧ g.kc x = c := by
        subst hK
        exact ⟨_, _, rfl, rfl⟩
      obtain ⟨p, c, hks, hkc⟩ := hks
      rw [hks] at c4 hrow
      rw [hkc] at hrow
      obtain ⟨n, hn⟩ : ∃ n, K.length = n := ⟨_, rfl⟩
      rw [hn] at c4 hmk hK1
      have HN := hide hn
      have c41 : W1.cell? ⟨d', 4, none⟩ = some (.slice p n c) := ((unhide KD).below.cell (p := ⟨d', 4, none⟩) (World.block_lt_of_cell? X _ c4)).trans c4
      clear hCX hb hkd hz hks hkc hn hK hN hnd
      go_wp2_with fail
      go_loopw [30] (fun v30 wr => ∃ i : Nat, i ≤ n ∧ v30 = .int .i64 i ∧ Hid (Kdr W X K i wr)) (fun v30 _ => n - (intOf' v30).toNat)
      case atStart => exact ⟨0, Nat.zero_le _, rfl, unhide KD⟩
      case round =>
        obtain ⟨i, hi, rfl, hrel⟩ := hrel
        by_cases hlt : i < n
        · have hil : i < K.length := by rw [unhide HN]; exact hlt
          obtain ⟨q, y, hq, hy, hqc, hyc⟩ := unhide hrow i hil
          injection hq with hq _ _
          subst hq
          have bw := (unhide hrel).below
          have hq1 := (bw.cell (p := ⟨q, i, none⟩) (World.block_lt_of_cell? X _ hqc)).trans hqc
          obtain ⟨b, hb⟩ : ∃ b, b = g.nd y := ⟨_, rfl⟩
          rw [← hb] at hq1 hyc
          have hy1 := (bw.cell (p := ⟨b, 0, none⟩) (World.block_lt_of_cell? X _ hyc)).trans hyc
          obtain ⟨v0, hv0⟩ := (unhide hrel).any i hil
          have hfz := (unhide hrel).fz i
          have HST := hide ((unhide hrel).step hil)
          rw [hy] at HST
          obtain ⟨Y, hY⟩ : ∃ Y, Y = txN y := ⟨_, rfl⟩
          rw [← hY] at HST hy1
          have hwi : IntKind.i64.wrap ((i : Int) + 1) = (i : Int) + 1 := wrapI (by omega) (by omega)
          clear hqc hyc bw hb hy hY c4 c41 hil hmk
          go_wp2_with fail
          refine ⟨⟨i + 1, by omega, by simp, unhide HST⟩, ?_⟩
          show n - ((i : Int) + 1).toNat < n - ((i : Int)).toNat
          omega
        · have hin : i = n := by omega
          subst hin
          have hall : Hid (Kdr W X K K.length wr) := by
            rw [unhide HN]
            exact unhide hrel
          clear c4 c41 hmk
          go_wp2_with fail
          go_ret
          have := (unhide hall).out (by rw [unhide HN]; exact hK1) (unhide HB)
          rw [unhide HN] at this
          exact this
theorem kids_any {W : World} {d : Nat} {S : Nat → Prop} {L : List Ac} {g : Gh} (h : Ct W d S L g) (t : ByteArray) (ht : t.size < 4611686018427387904) :
    Calls Tryz.prog 24 #[ptr d, .string t] W fun e w' => KidsOut W (kids L t.data.toList) e w' := (kids_own h t ht).mono fun _ _ h => h.1
end Go.Proofs.YtdeibifjiefapaaGreatDoor
