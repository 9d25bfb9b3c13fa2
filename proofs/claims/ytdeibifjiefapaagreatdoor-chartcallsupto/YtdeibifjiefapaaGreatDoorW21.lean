import Derived.Test.YtdeibifjiefapaaGreatDoorW19
import Derived.Test.YtdeibifjiefapaaGreatDoorW20
/- The document's chart in memory; at (88). -/
namespace Go.Proofs.YtdeibifjiefapaaGreatDoor
open Go Go.Shelf Go.ChangeShapes Go.WideShapes Go.ChangeAt Go.RowKit Go.Maps Go.Sort
set_option linter.unusedVariables false
/-- the document's chart: its block, and its list in a row of its own -/
structure RcS (W : World) (d : Nat) (S : Nat → Prop) (L : List Ac) (v : Value) : Prop where
  blk : W.heap[d]? = some (.cells #[v] 72)
  row : W.ownsRow 0 65 4 v L.length (kA.flat L)
  good : Good L
  sd : S d
  sv : ∀ g, v.ownBlock = some g → S g ∧ g ≠ d
  inh : ∀ k, S k → k < W.heap.size
def Rc (W : World) (d : Nat) (S : Nat → Prop) (L : List Ac) : Prop := ∃ v, RcS W d S L v
theorem Rc.keep {W W' : World} {d : Nat} {S : Nat → Prop} {L : List Ac} (h : Rc W d S L) (hs : W.heap.size ≤ W'.heap.size) (hk : ∀ k, S k → W'.heap[k]? = W.heap[k]?) : Rc W' d S L := by
  obtain ⟨v, h⟩ := h
  exact ⟨v, (hk d h.sd).trans h.blk, row_keep h.row (fun g hg => hk g (h.sv g hg).1), h.good, h.sd, h.sv, fun k hk' => Nat.lt_of_lt_of_le (h.inh k hk') hs⟩
theorem Rc.below {W W' : World} {d : Nat} {S : Nat → Prop} {L : List Ac} (h : Rc W d S L) (hb : Below W.heap.size W W') : Rc W' d S L := by
  have hi : ∀ k, S k → k < W.heap.size := by obtain ⟨v, h⟩ := h; exact h.inh
  exact h.keep hb.size (fun k hk => hb.block k (hi k hk))
theorem Rc.isGood {W : World} {d : Nat} {S : Nat → Prop} {L : List Ac} (h : Rc W d S L) : Good L := by obtain ⟨v, h⟩ := h; exact h.good
/-- what its block and its list hold -/
theorem Rc.open {W : World} {d : Nat} {S : Nat → Prop} {L : List Ac} (h : Rc W d S L) : ∃ p c, W.cell? ⟨d, 0, none⟩ = some (.slice p L.length c) ∧ W.frozen? ⟨d, 0, none⟩ = false ∧ Lies kA W p L ∧ (p = none → c = 0) ∧ (∀ a, p = some a → a.off = 0 ∧ a.spot = none) := by
  obtain ⟨v, h⟩ := h
  obtain ⟨p, c, rfl, h1, h2⟩ := row_slice h.row
  exact ⟨p, c, cell_of h.blk rfl, froz_of h.blk 0, own_lies (B := 0) kA_ok rfl h.row, fun e => (h1 e).2, fun a e => ⟨(h2 a e).1, (h2 a e).2.1⟩⟩
/-- an account that lies there, its cells -/
theorem acc_cells4 {X3 : World} {b off : Nat} {L : List Ac} (h : Lies kA X3 (some ⟨b, off, none⟩) L) {k : Nat} (hk : k < L.length) {Y : World} (hb : Below X3.heap.size X3 Y) :
    Y.cell? ⟨b, off + k * 4, none⟩ = some (.string (txN L[k].nm)) ∧ Y.cell? ⟨b, off + k * 4 + 1, none⟩ = some (.int .i64 L[k].ty) ∧ Y.cell? ⟨b, off + k * 4 + 2, none⟩ = some (.int .i64 L[k].dy) ∧ Y.cell? ⟨b, off + k * 4 + 3, none⟩ = some (.bool L[k].cl) := by
  obtain ⟨b', off', hp, hlt, hr⟩ := h.2 k hk
  cases hp
  have h2 : ∀ j v, (vals4 L[k])[j]? = some v → Y.cell? ⟨b, off + k * 4 + j, none⟩ = some v := fun j v hv => (hb.cell (p := ⟨b, off + k * 4 + j, none⟩) hlt).trans (hr j v hv)
  exact ⟨h2 0 _ rfl, h2 1 _ rfl, h2 2 _ rfl, h2 3 _ rfl⟩
theorem fnd_iff {L : List Ac} (hG : Good L) {x : Nm} {a : Ac} : fnd L x = some a ↔ a ∈ L ∧ a.nm = x :=
  ⟨fnd_some, fun ⟨h, e⟩ => by rw [← e]; exact fnd_of hG h⟩
/-- where an account stands, or none does -/
def AtOut (L : List Ac) (x : Nm) (r : Int) : Prop := (∃ (i : Nat) (h : i < L.length), r = (i : Int) ∧ fnd L x = some L[i]) ∨ (r = -1 ∧ fnd L x = none)
theorem txt_ne {x : Nm} {t : ByteArray} (h : x ≠ t.data.toList) : ¬ (txN x).toList = t.toList ∧ ((txN x).toList == t.toList) = false := by
  have h1 : ¬ (txN x).toList = t.toList := by
    rw [ByteArray.toList_eq, ByteArray.toList_eq, txN_list]
    exact h
  exact ⟨h1, beq_eq_false_iff_ne.2 h1⟩
theorem txt_eq {x : Nm} {t : ByteArray} (h : x = t.data.toList) : txN x = t := by
  subst h
  obtain ⟨⟨l⟩⟩ := t
  rfl
theorem fnd_cons {a : Ac} {L : List Ac} {x : Nm} (h : a.nm ≠ x) : fnd (a :: L) x = fnd L x := by
  unfold fnd
  rw [List.find?_cons, decide_eq_false h]
theorem fnd_first : ∀ {L : List Ac} {x : Nm} {i : Nat} (hi : i < L.length), L[i].nm = x → (∀ j (h : j < L.length), j < i → L[j].nm ≠ x) → fnd L x = some L[i]
  | [], _, i, hi, _, _ => by simp at hi
  | a :: L, x, 0, hi, he, _ => by
    unfold fnd
    rw [List.find?_cons, decide_eq_true (show a.nm = x from he)]
    rfl
  | a :: L, x, i + 1, hi, he, hne => by
    have h0 : a.nm ≠ x := hne 0 (by simp) (by omega)
    rw [fnd_cons h0]
    exact fnd_first (L := L) (by simpa using hi) he (fun j h hj => hne (j + 1) (by simpa using h) (by omega))
set_option maxRecDepth 100000 in
set_option maxHeartbeats 4000000 in
theorem rat_raw {W : World} {d n c : Nat} {p : Option Addr} {L : List Ac} (hc : W.cell? ⟨d, 0, none⟩ = some (.slice p n c)) (hl : Lies kA W p L) (hn : L.length = n) (hn1 : n ≤ 4611686018427387904) (t : ByteArray) :
    Calls Tryz.prog 88 #[ptr d, .string t] W fun e w' => (∃ r, e = .returned (.int .i64 r) ∧ AtOut L t.data.toList r) ∧ w' = W := by
  have HL := hide hl
  have HN := hide hn
  clear hn hl
  go_enter Tryz.func88, Tryz.ntmps88
  go_wp2_with fail
  go_loopw [5] (fun v5 wr => ∃ i : Nat, i ≤ n ∧ v5 = .int .i64 i ∧ wr = W ∧ Hid (∀ j (h : j < L.length), j < i → L[j].nm ≠ t.data.toList)) (fun v5 _ => n - (intOf' v5).toNat)
  case atStart => exact ⟨0, Nat.zero_le _, rfl, rfl, fun j _ hj => by omega⟩
  case round =>
    obtain ⟨i, hi, rfl, rfl, hne⟩ := hrel
    by_cases hlt : i < n
    · have hiL : i < L.length := by rw [unhide HN]; exact hlt
      obtain ⟨b, off, hp, _, _⟩ := (unhide HL).2 i hiL
      subst hp
      have c0 := (acc_cells4 (unhide HL) hiL (Below.refl _ _)).1
      have hwi : IntKind.i64.wrap ((i : Int) + 1) = (i : Int) + 1 := wrapI (by omega) (by omega)
      by_cases he : L[i].nm = t.data.toList
      · have AO : Hid (AtOut L t.data.toList i) := .inl ⟨i, hiL, rfl, fnd_first hiL he (unhide hne)⟩
        rw [txt_eq he] at c0
        clear he hne
        go_wp2_with fail
        go_ret
        exact ⟨⟨_, rfl, unhide AO⟩, rfl⟩
      · obtain ⟨z1, z2⟩ := txt_ne he
        have HNE : Hid (∀ j (h : j < L.length), j < i + 1 → L[j].nm ≠ t.data.toList) := fun j h hj => by
          by_cases e : j = i
          · subst e; exact he
          · exact unhide hne j h (by omega)
        obtain ⟨T, hT⟩ : ∃ T, T = txN L[i].nm := ⟨_, rfl⟩
        rw [← hT] at c0 z1 z2
        clear he hne hT
        go_wp2_with fail
        refine ⟨⟨i + 1, by omega, by simp, trivial, unhide HNE⟩, ?_⟩
        show n - ((i : Int) + 1).toNat < n - ((i : Int)).toNat
        omega
    · have AO : Hid (AtOut L t.data.toList (-1)) := by
        refine .inr ⟨rfl, ?_⟩
        cases hf : fnd L t.data.toList with
        | none => rfl
        | some a =>
          obtain ⟨h1, h2⟩ := fnd_some hf
          obtain ⟨j, hj, rfl⟩ := List.mem_iff_getElem.1 h1
          exact absurd h2 (unhide hne j hj (by have := unhide HN; omega))
      have hin : i = n := by omega
      subst hin
      go_wp2_with fail
      go_ret
      exact ⟨⟨_, rfl, unhide AO⟩, rfl⟩
theorem rat_any {W : World} {d : Nat} {S : Nat → Prop} {L : List Ac} (h : Rc W d S L) (t : ByteArray) :
    Calls Tryz.prog 88 #[ptr d, .string t] W fun e w' => (∃ r, e = .returned (.int .i64 r) ∧ AtOut L t.data.toList r) ∧ w' = W := by
  obtain ⟨p, c, hc, _, hl, _, _⟩ := h.open
  exact rat_raw hc hl rfl (by have := h.isGood.len; omega) t
end Go.Proofs.YtdeibifjiefapaaGreatDoor
/- The document's chart: Is (87), New (7), May (21), Find (23), Accounts (29), Kids (27). -/
namespace Go.Proofs.YtdeibifjiefapaaGreatDoor
open Go Go.Shelf Go.ChangeShapes Go.WideShapes Go.ChangeAt Go.RowKit Go.Maps Go.Sort
set_option linter.unusedVariables false
theorem ris_any (z : Int) (w : World) : Calls Tryz.prog 87 #[.int .i64 z] w fun e w' => e = .returned (.bool (decide (1 ≤ z ∧ z ≤ 3652059))) ∧ w' = w := by
  by_cases h1 : 1 ≤ z
  · by_cases h2 : z ≤ 3652059
    · rw [decide_eq_true ⟨h1, h2⟩]
      go_enter Tryz.func87, Tryz.ntmps87
      go_wp2
      go_ret
      exact ⟨rfl, rfl⟩
    · rw [decide_eq_false (fun h => h2 h.2)]
      go_enter Tryz.func87, Tryz.ntmps87
      go_wp2
      go_ret
      exact ⟨rfl, rfl⟩
  · rw [decide_eq_false (fun h => h1 h.1)]
    go_enter Tryz.func87, Tryz.ntmps87
    go_wp2
    go_ret
    exact ⟨rfl, rfl⟩
theorem rnew_any (w : World) : Calls Tryz.prog 7 #[] w fun e w' => e = .returned (ptr w.heap.size) ∧ w' = w.alloc (.cells #[.slice none 0 0] 72) := by
  go_enter Tryz.func7, Tryz.ntmps7
  go_wp2
  go_ret
  exact ⟨rfl, rfl⟩
theorem rnew_rc (w : World) : Rc (w.alloc (.cells #[.slice none 0 0] 72)) w.heap.size (fun k => k = w.heap.size) [] :=
  ⟨.slice none 0 0, World.alloc_heap_new w _, ⟨rfl, .inl ⟨rfl, rfl⟩⟩, good_nil, rfl, (fun g hg => by cases hg), fun k hk => by rw [hk]; simp⟩
set_option maxHeartbeats 2000000 in
theorem rmay_any {W : World} {d : Nat} {S : Nat → Prop} {L : List Ac} (h : Rc W d S L) (t : ByteArray) (z : Int) :
    Calls Tryz.prog 21 #[ptr d, .string t, .int .i64 z] W fun e w' => e = .returned (.int .i64 (mayE L t.data.toList z)) ∧ w' = W := by
  have dA := hide (rat_any h t)
  obtain ⟨p, c, hc, _, hl, _, _⟩ := h.open
  have HL := hide hl
  have hlen := h.isGood.len
  obtain ⟨E, hE⟩ : ∃ E, E = mayE L t.data.toList z := ⟨_, rfl⟩
  rw [← hE]
  obtain ⟨n, hn⟩ : ∃ n, n = L.length := ⟨_, rfl⟩
  rw [← hn] at hc hlen
  have HN := hide hn
  clear h hl hn
  go_enter Tryz.func21, Tryz.ntmps21
  go_upto_region 2 with (go_at_call 88; refine (unhide dA).mono ?_; rintro e X ⟨⟨r, rfl, ho⟩, hX⟩; rw [hX]; clear hX)
  rcases ho with ⟨i, hi, rfl, hf⟩ | ⟨rfl, hf⟩
  · rw [mayE, hf] at hE
    have hE2 : E = if L[i].cl = true then 63 else if z < L[i].dy then 66 else 0 := hE
    obtain ⟨b, off, hp, _, _⟩ := (unhide HL).2 i hi
    subst hp
    have hin : i < n := by rw [unhide HN]; exact hi
    have hc4 := acc_cells4 (unhide HL) hi (Below.refl _ _)
    have c2 := hc4.2.2.1
    have c3 := hc4.2.2.2
    obtain ⟨a, ha⟩ : ∃ a, a = L[i] := ⟨_, rfl⟩
    rw [← ha] at c2 c3 hE2
    clear hc4 hE hf dA ha
    cases hcl : a.cl with
    | true =>
      rw [hcl] at c3 hE2
      have e2 : E = 63 := hE2
      subst e2
      clear hE2 hcl
      go_wp2
      go_ret
      exact ⟨rfl, rfl⟩
    | false =>
      rw [hcl] at c3 hE2
      by_cases hz : z < a.dy
      · have e2 : E = 66 := by rw [hE2, if_neg (by decide), if_pos hz]
        subst e2
        clear hE2 hcl
        go_wp2
        go_ret
        exact ⟨rfl, rfl⟩
      · have e2 : E = 0 := by rw [hE2, if_neg (by decide), if_neg hz]
        subst e2
        clear hE2 hcl
        go_wp2
        go_ret
        exact ⟨rfl, rfl⟩
  · rw [mayE, hf] at hE
    have e2 : E = 61 := hE
    subst e2
    clear hE hf dA
    go_wp2
    go_ret
    exact ⟨rfl, rfl⟩
section
attribute [local go_sem ↓] ld41_is
set_option maxRecDepth 100000 in
set_option maxHeartbeats 2000000 in
theorem rfind_any {W : World} {d : Nat} {S : Nat → Prop} {L : List Ac} (h : Rc W d S L) (t : ByteArray) :
    Calls Tryz.prog 23 #[ptr d, .string t] W fun e w' => e = .returned (.tuple #[acV (findA L t.data.toList), .bool (fnd L t.data.toList).isSome]) ∧ Below W.heap.size W w' := by
  obtain ⟨A0, hA0⟩ : ∃ A0, A0 = findA L t.data.toList := ⟨_, rfl⟩
  obtain ⟨G0, hG0⟩ : ∃ G0, G0 = (fnd L t.data.toList).isSome := ⟨_, rfl⟩
  rw [← hA0, ← hG0]
  have HA0 := hide hA0; have HG0 := hide hG0
  clear hA0 hG0
  have b0 : ∀ o, Below W.heap.size W (W.alloc o) := fun o => (Below.refl _ W).alloc (Nat.le_refl _) o
  have dA := hide (rat_any (h.below (b0 (.cells #[.string ⟨#[]⟩, .int .i64 0, .int .i64 0, .bool false] 65))) t)
  obtain ⟨p, c, hc, _, hl, _, _⟩ := (h.below (b0 (.cells #[.string ⟨#[]⟩, .int .i64 0, .int .i64 0, .bool false] 65))).open
  have HL := hide hl
  have hlen := h.isGood.len
  have r1 : (W.alloc (.cells #[.string ⟨#[]⟩, .int .i64 0, .int .i64 0, .bool false] 65)).heap[W.heap.size]? = some (.cells #[.string ⟨#[]⟩, .int .i64 0, .int .i64 0, .bool false] 65) := World.alloc_heap_new W _
  obtain ⟨n, hn⟩ : ∃ n, n = L.length := ⟨_, rfl⟩
  rw [← hn] at hc hlen
  have HN := hide hn
  have B0 := hide (b0 (.cells #[.string ⟨#[]⟩, .int .i64 0, .int .i64 0, .bool false] 65))
  obtain ⟨W1, hW1⟩ : ∃ W1, W1 = W.alloc (.cells #[.string ⟨#[]⟩, .int .i64 0, .int .i64 0, .bool false] 65) := ⟨_, rfl⟩
  rw [← hW1] at dA hc r1 B0 HL
  have HW1 := hide hW1
  have k0 : W1.cell? ⟨W.heap.size, 0, none⟩ = some (.string ⟨#[]⟩) := cell_of r1 rfl
  have k1 : W1.cell? ⟨W.heap.size, 1, none⟩ = some (.int .i64 0) := cell_of r1 rfl
  have k2 : W1.cell? ⟨W.heap.size, 2, none⟩ = some (.int .i64 0) := cell_of r1 rfl
  have k3 : W1.cell? ⟨W.heap.size, 3, none⟩ = some (.bool false) := cell_of r1 rfl
  have f0 := froz_of r1 0; have f1 := froz_of r1 1; have f2 := froz_of r1 2; have f3 := froz_of r1 3
  have R1 := hide r1
  clear h hl hn b0 r1 hW1
  go_enter Tryz.func23, Tryz.ntmps23
  go_upto_region 2 with (rw [← unhide HW1]; go_at_call 88; refine (unhide dA).mono ?_; rintro e X ⟨⟨r, rfl, ho⟩, hX⟩; rw [hX]; clear hX)
  rcases ho with ⟨i, hi, rfl, hf⟩ | ⟨rfl, hf⟩
  · have e1 : A0 = L[i] := by rw [unhide HA0, findA, hf]; rfl
    have e2 : G0 = true := by rw [unhide HG0, hf]; rfl
    subst e2
    obtain ⟨b, off, hp, hbW, hr⟩ := (unhide HL).2 i hi
    subst hp
    have hin : i < n := by rw [unhide HN]; exact hi
    have hld := run_ld41 (b := b) (o := off + i * 4) (a := L[i]) hr
    rw [← e1] at hld
    unfold acV at hld
    clear hf dA hr e1
    go_wp2
    refine bodyPost_ret (results_ct (v := acV A0) (u := .bool true) Tryz.results23 rfl rfl (lv41 (range4 (st4_is (unhide R1) A0)))) rfl ?_
    exact ⟨rfl, st4_below (unhide B0) (Nat.le_refl _) A0⟩
  · have e1 : A0 = top0 := by rw [unhide HA0, findA, hf]; rfl
    have e2 : G0 = false := by rw [unhide HG0, hf]; rfl
    subst e1 e2
    clear hf dA
    go_wp2
    refine bodyPost_ret (results_ct (v := acV top0) (u := .bool false) Tryz.results23 rfl rfl (lv41 (range4 (st4_is (unhide R1) top0)))) rfl ?_
    exact ⟨rfl, st4_below (unhide B0) (Nat.le_refl _) top0⟩
end
/-- the list that Accounts answers: the caller's own -/
def RAccOut (W : World) (L : List Ac) (e : Ending) (w' : World) : Prop := ∃ v, e = .returned v ∧ w'.ownsRow W.heap.size 65 4 v L.length (kA.flat L) ∧ Below W.heap.size W w'
set_option maxHeartbeats 2000000 in
theorem raccounts_any {W : World} {d : Nat} {S : Nat → Prop} {L : List Ac} (h : Rc W d S L) :
    Calls Tryz.prog 29 #[ptr d] W fun e w' => RAccOut W L e w' := by
  obtain ⟨p, c, hc, _, hl, hpc, _⟩ := h.open
  have hlen := h.isGood.len
  obtain ⟨p', c', w', hr, ho, hb, _⟩ := run_app kA_ok (L := []) (M := L) (v := .slice none 0 0) (n := 0) 22 (World.ownsRow_nil _ _ _ _) (Nat.le_refl _) p c hpc hl (by omega)
  rw [Nat.zero_add] at hr ho
  rw [List.nil_append] at ho
  have HR := hide hr
  have HO : Hid (RAccOut W L (.returned (.slice p' L.length c')) w') := ⟨_, rfl, ho, hb⟩
  obtain ⟨n, hn⟩ : ∃ n, n = L.length := ⟨_, rfl⟩
  rw [← hn] at hc HR HO
  clear h hl hr ho hb hn
  go_enter Tryz.func29, Tryz.ntmps29
  go_wp2_with (at_builtin; refine wpList_append_run rfl _ _ 22 rfl _ _ _ _ rfl rfl (unhide HR) ?_)
  go_ret
  exact unhide HO
/-- texts as elements -/
def kT : Kd Nm := ⟨fun x => [.string (txN x)], 1, 85, 9, 16⟩
theorem kT_ok : KdOK kT := kd_ok (fun _ => rfl) (by decide) (fun x u hu => by simp [kT] at hu; rcases hu with rfl; rfl) Tryz.underlying85 (z := .string ⟨#[]⟩) (by kernel_rfl) rfl (by decide)
theorem kT_flat (K : List Nm) : kT.flat K = K.map fun x => .string (txN x) := by
  induction K with
  | nil => rfl
  | cons a K ih =>
    have e : kT.flat (a :: K) = kT.enc a ++ kT.flat K := by simp [Kd.flat]
    rw [e, ih]
    rfl
/-- the list that Kids answers: the caller's own -/
def RKidOut (W : World) (K : List Nm) (e : Ending) (w' : World) : Prop := ∃ v, e = .returned v ∧ w'.ownsRow W.heap.size 9 1 v K.length (kT.flat K) ∧ Below W.heap.size W w'
theorem kids_snoc (L : List Ac) {i : Nat} (hi : i < L.length) (x : Nm) : kids (L.take (i + 1)) x = if par L[i].nm = x then kids (L.take i) x ++ [L[i].nm] else kids (L.take i) x := by
  unfold kids
  rw [← List.take_append_getElem hi, List.filter_append, List.map_append]
  by_cases h : par L[i].nm = x
  · rw [if_pos h, List.filter_cons_of_pos (by simpa using h)]
    rfl
  · rw [if_neg h, List.filter_cons_of_neg (by simpa using h)]
    simp
theorem par_parS {x : Nm} (h : nameL x = true) : (parS x).1 = txN (par x) := by
  rw [parS, if_pos h, par]
  rcases ups_cases x with e | ⟨p, e, _⟩
  · rw [e]; rfl
  · rw [e]; rfl
set_option maxRecDepth 100000 in
set_option maxHeartbeats 4000000 in
theorem rkids_any {W : World} {d : Nat} {S : Nat → Prop} {L : List Ac} (h : Rc W d S L) (t : ByteArray) :
    Calls Tryz.prog 27 #[ptr d, .string t] W fun e w' => RKidOut W (kids L t.data.toList) e w' := by
  have HC := hide h
  have HG := hide h.isGood
  have hlen := h.isGood.len
  obtain ⟨x, hx⟩ : ∃ x, x = t.data.toList := ⟨_, rfl⟩
  have HX := hide hx
  rw [← hx]
  obtain ⟨n, hn⟩ : ∃ n, n = L.length := ⟨_, rfl⟩
  have HN := hide hn
  rw [← hn] at hlen
  clear h hx hn
  go_enter Tryz.func27, Tryz.ntmps27
  go_wp2_with fail
  go_loopw [5, 6] (fun v5 v6 wr => ∃ (i m c : Nat) (p : Option Addr), i ≤ n ∧ m ≤ i ∧ v5 = .slice p m c ∧ v6 = .int .i64 i ∧ Hid (Below W.heap.size W wr ∧ (kids (L.take i) x).length = m ∧ wr.ownsRow W.heap.size 9 1 (.slice p m c) m (kT.flat (kids (L.take i) x)))) (fun _ v6 _ => n - (intOf' v6).toNat)
  case atStart => exact ⟨0, 0, 0, none, Nat.zero_le _, Nat.le_refl _, rfl, rfl, Below.refl _ _, rfl, World.ownsRow_nil _ _ _ _⟩
  case round =>
    obtain ⟨i, m, c, p, hi, hmi, rfl, rfl, hrel⟩ := hrel
    obtain ⟨w5, hw5⟩ : ∃ w5, w5 = wr := ⟨_, rfl⟩
    rw [← hw5] at hrel ⊢
    clear hw5
    have hR5 := (unhide HC).below (unhide hrel).1
    obtain ⟨pl, cl, hc, _, hl, _, _⟩ := hR5.open
    rw [← unhide HN] at hc
    have HL := hide hl
    clear hl hR5
    by_cases hlt : i < n
    · have hiL : i < L.length := by rw [← unhide HN]; exact hlt
      obtain ⟨b, off, hp, _, _⟩ := (unhide HL).2 i hiL
      subst hp
      have c0 := (acc_cells4 (unhide HL) hiL (Below.refl _ _)).1
      have hnm := (unhide HG).name _ (List.getElem_mem hiL)
      have dP := hide (rparent_any (txN L[i].nm) (name_size hnm) w5)
      rw [txN_list, par_parS hnm] at dP
      have hsn := kids_snoc L hiL x
      have hwi : IntKind.i64.wrap ((i : Int) + 1) = (i : Int) + 1 := wrapI (by omega) (by omega)
      have HC1 : Hid (∀ Y, Below w5.heap.size w5 Y → Y.cell? ⟨d, 0, none⟩ = some (.slice (some ⟨b, off, none⟩) n cl) ∧ Y.cell? ⟨b, off + i * 4, none⟩ = some (.string (txN L[i].nm))) := fun Y hY => ⟨(hY.cell (p := ⟨d, 0, none⟩) (World.block_lt_of_cell? _ _ hc)).trans hc, (acc_cells4 (unhide HL) hiL hY).1⟩
      obtain ⟨y, hy⟩ : ∃ y, y = L[i].nm := ⟨_, rfl⟩
      rw [← hy] at c0 dP hsn HC1
      obtain ⟨T, hT⟩ : ∃ T, T = txN y := ⟨_, rfl⟩
      have HT := hide hT
      rw [← hT] at c0 dP HC1
      clear hnm hy hT
      by_cases he : par y = x
      · rw [if_pos he] at hsn
        have hTt : txN (par y) = t := txt_eq (by rw [he, unhide HX])
        rw [hTt] at dP
        have HAPP : Hid (∀ Y, Below w5.heap.size w5 Y → ∃ p' c' w', (Builtin.append_ #[85, 85] 85 #[.slice p m c, .slice (some ⟨Y.heap.size, 0, none⟩) 1 1]).run Tryz.prog (Y.alloc (.cells #[.string T] 9)) = .ok (.slice p' (m + 1) c') w' ∧ Hid (Below W.heap.size W w' ∧ (kids (L.take (i + 1)) x).length = m + 1 ∧ w'.ownsRow W.heap.size 9 1 (.slice p' (m + 1) c') (m + 1) (kT.flat (kids (L.take (i + 1)) x)))) := fun Y hY => by
          have hb5 := (unhide hrel).1
          have hrow := row_keep (unhide hrel).2.2 (fun g hg => ((Below.heap_alloc Y (.cells #[.string T] 9) g (Nat.lt_of_lt_of_le (row_block (unhide hrel).2.2 hg).2.1 hY.size)).trans (hY.block g (row_block (unhide hrel).2.2 hg).2.1)))
          obtain ⟨p', c', w', hr, ho, hb, _⟩ := run_app kT_ok (L := kids (L.take i) x) (M := [y]) (n := m) 85 hrow (by rw [World.size_alloc]; have := hb5.size; have := hY.size; omega) (some ⟨Y.heap.size, 0, none⟩) 1 (fun h => by cases h) (one_lies Y y 9 #[.string T] (by rw [unhide HT]; rfl)) (by simp; omega)
          refine ⟨p', c', w', hr, (((hb5.trans (hY.mono hb5.size))).alloc (Nat.le_trans hb5.size hY.size) _).trans hb, by rw [hsn, List.length_append, (unhide hrel).2.1]; rfl, ?_⟩
          rw [hsn]
          exact ho
        clear he hsn hTt hrel
        go_upto_region 6 with (go_at_call 89; refine (unhide dP).mono ?_; rintro e Y ⟨rfl, hb⟩; have HCY := unhide HC1 Y hb; have cd := HCY.1; have c1 := HCY.2; obtain ⟨p', c', w', hr, hf⟩ := unhide HAPP Y hb; have HR := hide hr; clear hr hb HCY)
        clear c0 hc
        go_wp2_with (at_builtin; refine wpList_append_run rfl _ _ 85 rfl _ _ _ _ rfl rfl (unhide HR) ?_)
        refine ⟨⟨i + 1, m + 1, c', p', by omega, by omega, by first | rfl | simp, by simp, hf⟩, ?_⟩
        show n - ((i : Int) + 1).toNat < n - ((i : Int)).toNat
        omega
      · rw [if_neg he] at hsn
        obtain ⟨z1, z2⟩ := txt_ne (x := par y) (t := t) (by rw [← unhide HX]; exact he)
        obtain ⟨Q, hQ⟩ : ∃ Q, Q = txN (par y) := ⟨_, rfl⟩
        rw [← hQ] at dP z1 z2
        have HB5 : Hid (∀ Y, Below w5.heap.size w5 Y → Below W.heap.size W Y ∧ (kids (L.take (i + 1)) x).length = m ∧ Y.ownsRow W.heap.size 9 1 (.slice p m c) m (kT.flat (kids (L.take (i + 1)) x))) := fun Y hY => by
          have hb5 := (unhide hrel).1
          rw [hsn]
          exact ⟨hb5.trans (hY.mono hb5.size), (unhide hrel).2.1, row_keep (unhide hrel).2.2 (fun g hg => hY.block g (row_block (unhide hrel).2.2 hg).2.1)⟩
        clear he hsn hQ hrel
        go_upto_region 6 with (go_at_call 89; refine (unhide dP).mono ?_; rintro e Y ⟨rfl, hb⟩; have HF := hide (unhide HB5 Y hb); clear hb)
        go_wp2_with fail
        refine ⟨⟨i + 1, m, c, p, by omega, by omega, rfl, by simp, unhide HF⟩, ?_⟩
        show n - ((i : Int) + 1).toNat < n - ((i : Int)).toNat
        omega
    · have hin : i = n := by omega
      subst hin
      have HF : Hid (RKidOut W (kids L x) (.returned (.slice p m c)) w5) := by
        obtain ⟨h1, h2, h3⟩ := unhide hrel
        rw [List.take_of_length_le (by rw [← unhide HN]; exact Nat.le_refl _)] at h2 h3
        exact ⟨_, rfl, by rw [h2]; exact h3, h1⟩
      clear hrel
      go_wp2_with fail
      go_ret
      exact unhide HF
end Go.Proofs.YtdeibifjiefapaaGreatDoor
