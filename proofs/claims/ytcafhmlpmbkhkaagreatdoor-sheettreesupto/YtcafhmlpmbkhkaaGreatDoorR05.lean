import Derived.Test.YtcafhmlpmbkhkaaGreatDoorR02
import Derived.Test.YtcafhmlpmbkhkaaGreatDoorR04
import Derived.Test.YtcafhmlpmbkhkaaGreatDoorR01
namespace Go.Proofs.YtcafhmlpmbkhkaaGreatDoor.Ch
open Go Go.ChangeShapes Go.WideShapes Go.ChangeAt Go.RowKit
set_option linter.unusedVariables false
theorem rgood_any (s : ByteArray) (hs : s.size < 4611686018427387904) (w : World) : Calls Tryz.prog 238 #[.string s] w fun e w' => e = .returned (.bool (nameL s.data.toList)) ∧ w' = w := by
  have d := hide (rname_any s (by omega) w)
  go_enter Tryz.func238, Tryz.ntmps238
  go_wp2_with fail
  refine (unhide d).mono ?_
  rintro e w1 ⟨rfl, hw⟩
  rw [hw]
  clear hw
  go_wp2_with fail
  go_ret
  exact ⟨rfl, rfl⟩
structure PAt (w : World) (s : ByteArray) (i : Nat) (v : Value) (wr : World) : Prop where
  own : ∃ xs : List (List UInt8), 0 < xs.length ∧ wr.ownsRow w.heap.size 9 1 v xs.length (xs.map fun x => .string ⟨x.toArray⟩) ∧ s.data.toList :: ups s.data.toList = xs ++ upsK s.data.toList i
  below : Below w.heap.size w wr
set_option maxRecDepth 100000 in
set_option maxHeartbeats 4000000 in
theorem rpath_any (s : ByteArray) (hs : s.size < 4611686018427387904) (w : World) : Calls Tryz.prog 194 #[.string s] w fun e w' => PathOut s w e w' := by
  obtain ⟨i0, hi, hz0, hz1, hz2⟩ := info_parts info9
  have HI := hide hi; have HZ0 := hide hz0; have HZ1 := hide hz1; have HZ2 := hide hz2
  clear hi hz0 hz1 hz2
  have d := hide (rgood_any s hs w)
  by_cases hn : nameL s.data.toList = true
  · rw [hn] at d
    have hp : Hid (pathL s.data.toList = s.data.toList :: ups s.data.toList) := by rw [pathL, if_pos hn]; rfl
    have hlen := hide (path_len s.data.toList)
    have hsl : Hid (s.data.toList.length = s.size) := by show _ = _; simp
    have h0 : Hid (PAt w s s.size (.slice (some ⟨w.heap.size, 0, none⟩) 1 1) (w.alloc (.cells #[.string s] 9))) := by
      refine ⟨⟨[s.data.toList], by simp, ?_, by rw [← unhide hsl]; rfl⟩, (Below.refl _ _).alloc (Nat.le_refl _) _⟩
      have h := World.ownsRow_lit (base := w.heap.size) (e := 9) (size := 1) w #[.string s] 1 (Nat.le_refl _) (by unfold maxLen; omega) rfl
      have e : ([s.data.toList].map fun x => Value.string ⟨x.toArray⟩) = [.string s] := by simp
      rw [e]
      exact h
    clear hn
    go_enter Tryz.func194, Tryz.ntmps194
    go_wp2_with fail
    refine (unhide d).mono ?_
    rintro e w1 ⟨rfl, hw⟩
    rw [hw]
    clear hw w1
    go_wp2_with fail
    go_loopw [4, 5] (fun v vi wr => ∃ i : Nat, i ≤ s.size ∧ vi = .int .i64 ((i : Int) - 1) ∧ PAt w s i v wr) (fun _ vi _ => (intOf vi + 1).toNat)
    case atStart => exact ⟨s.size, Nat.le_refl _, by first | rfl | go_num, unhide h0⟩
    case round =>
      obtain ⟨i, hi, rfl, hP⟩ := hrel
      have HP := hide hP
      clear hP h0
      cases i with
      | zero =>
        go_wp2_with fail
        go_ret
        obtain ⟨xs, hx0, hx1, hx2⟩ := (unhide HP).own
        have hx3 : pathL s.data.toList = xs := by rw [unhide hp, hx2, upsK, List.append_nil]
        refine ⟨_, rfl, ?_, ?_, (unhide HP).below⟩
        · rw [hx3, scells_list]
          exact hx1
        · rw [hx3]
          refine ⟨fun e => ?_, fun e => by omega⟩
          obtain ⟨g, c, hv⟩ := own_open hx1 hx0
          rw [hv] at e
          cases e
      | succ i =>
        have hI0 : (0 : Int) ≤ (i : Int) := by omega
        have hI1 : (i : Int) < (s.size : Int) := by omega
        have hI2 : (i : Int) ≤ (s.size : Int) := by omega
        have eI : ((i + 1 : Nat) : Int) - 1 = (i : Int) := by omega
        rw [eI]
        have HE := hide eI
        clear eI
        obtain ⟨xs, hx0, hx1, hx2⟩ := (unhide HP).own
        have hg : Hid (s.data.toList[i]? = some (s[i]'(by omega))) := by
          show _ = _
          rw [Array.getElem?_toList, Array.getElem?_eq_getElem (by have h : s.data.size = s.size := rfl; omega)]
          rfl
        have hxl : xs.length ≤ 6 := by
          have h := unhide hlen
          rw [unhide hp, hx2, List.length_append] at h
          omega
        have OWN := hide hx1
        have HX2 := hide hx2
        have BEL := hide (unhide HP).below
        have hsz := (unhide HP).below.size
        by_cases hc : s[i]'(by omega) = 58
        · have hq : (((s[i]'(by omega)).toNat : Int) == 58) = true := by rw [hc]; rfl
          have HC := hide hc
          have hxl6 : xs.length < 6 := by
            have h := unhide hlen
            rw [unhide hp, hx2, List.length_append, upsK, if_pos (by rw [unhide hg, hc]), List.length_cons] at h
            omega
          clear hc hx1 hx2
          go_wp2_with (at_builtin; refine wpList_append_own _ rfl _ _ 93 rfl w.heap.size 9 i0 (.string ⟨#[]⟩) 1 16 Tryz.underlying93 (unhide HI) (unhide HZ0) (unhide HZ1) (unhide HZ2) rfl (by decide) _ _ _ rfl ((unhide OWN).alloc _) ⟨wr.heap.size, 0, none⟩ 1 1 [.string (s.extract 0 i)] rfl rfl (cell_one_new _ _ _) (one_one _) (by unfold maxLen; omega) (by omega) (by simp; omega) ?_; intro v1 w2 hown1 hgrow1 _; have B2 := hide (Below.grown (bal (unhide BEL) _) hgrow1 (by simp; omega) (fun k hk => ((unhide OWN).lt k hk).1)); have O2 := hide hown1; clear hown1 hgrow1)
          refine ⟨⟨i, by omega, rfl, ⟨xs ++ [s.data.toList.take i], by simp, ?_, ?_⟩, unhide B2⟩, by simp [intOf]⟩
          · have h := unhide O2
            have e : ((xs ++ [s.data.toList.take i]).map fun x => Value.string ⟨x.toArray⟩) = (xs.map fun x => Value.string ⟨x.toArray⟩) ++ [.string (s.extract 0 i)] := by
              rw [List.map_append, text_of (ext_take s i)]
              rfl
            rw [e, List.length_append]
            exact h
          · rw [unhide HX2, upsK, if_pos (by rw [unhide hg, unhide HC]), List.append_assoc]
            rfl
        · have hq : (((s[i]'(by omega)).toNat : Int) == 58) = false := by
            simp only [beq_eq_false_iff_ne, ne_eq]
            intro e
            exact hc (UInt8.toNat_inj.1 (by exact_mod_cast e))
          have HC := hide hc
          clear hc hx1 hx2
          go_wp2_with fail
          refine ⟨⟨i, by omega, rfl, ⟨xs, hx0, unhide OWN, ?_⟩, unhide BEL⟩, by simp [intOf]⟩
          rw [unhide HX2, upsK, if_neg (by rw [unhide hg]; simpa using unhide HC)]
  · have hn' : nameL s.data.toList = false := by simpa using hn
    rw [hn'] at d
    have hp : Hid (pathL s.data.toList = []) := by rw [pathL, if_neg hn]; rfl
    clear hn hn'
    go_enter Tryz.func194, Tryz.ntmps194
    go_wp2_with fail
    refine (unhide d).mono ?_
    rintro e w1 ⟨rfl, hw⟩
    rw [hw]
    clear hw w1
    go_wp2_with fail
    go_ret
    refine ⟨_, rfl, ?_, ?_, Below.refl _ _⟩
    · rw [unhide hp]
      exact World.ownsRow_nil _ _ _ _
    · rw [unhide hp]
      simp
theorem parS_eq (l : List UInt8) : parS l = match pathL l with
    | _ :: p :: _ => (⟨p.toArray⟩, true)
    | _ => (⟨#[]⟩, false) := by
  unfold parS pathL
  by_cases hn : nameL l = true
  · rw [if_pos hn, if_pos hn]
    cases ups l <;> rfl
  · rw [if_neg hn, if_neg hn]
set_option maxHeartbeats 2000000 in
theorem rparent_any (s : ByteArray) (hs : s.size < 4611686018427387904) (w : World) : Calls Tryz.prog 239 #[.string s] w fun e w' => e = .returned (.tuple #[.string (parS s.data.toList).1, .bool (parS s.data.toList).2]) ∧ Below w.heap.size w w' := by
  have d := hide (rpath_any s hs w)
  have hp := hide (parS_eq s.data.toList)
  go_enter Tryz.func239, Tryz.ntmps239
  go_wp2_with fail
  refine (unhide d).mono ?_
  rintro e w1 ⟨v, rfl, hrow, hnil, hb⟩
  have HB := hide hb
  obtain ⟨P, hP⟩ : ∃ P, pathL s.data.toList = P := ⟨_, rfl⟩
  rw [hP] at hrow hnil hp
  rcases P with _ | ⟨a, _ | ⟨b, t⟩⟩
  · have hv := hnil.2 rfl
    subst hv
    clear hrow hnil hb
    go_wp2_with fail
    go_ret2
    rw [unhide hp]
    exact ⟨rfl, unhide HB⟩
  · obtain ⟨g, c, rfl⟩ := own_open hrow (by simp)
    clear hrow hnil hb
    simp only [List.length_cons, List.length_nil, Nat.zero_add]
    go_wp2_with fail
    go_ret2
    rw [unhide hp]
    exact ⟨rfl, unhide HB⟩
  · obtain ⟨g, c, rfl⟩ := own_open hrow (by simp)
    have hc : w1.cell? ⟨g, 1, none⟩ = some (.string ⟨b.toArray⟩) := by
      rw [hrow.cellAt 1 (by simp), scells_list]
      rfl
    obtain ⟨L, hL⟩ : ∃ L, (a :: b :: t).length = L := ⟨_, rfl⟩
    have hL2 : 2 ≤ L := by rw [← hL]; simp
    rw [hL]
    have hI : ¬ (L : Int) < 2 := by omega
    have hI2 : (1 : Int) < (L : Int) := by omega
    clear hrow hnil hb hL
    go_wp2_with fail
    go_ret2
    rw [unhide hp]
    exact ⟨rfl, unhide HB⟩
open Go Go.Shelf Go.ChangeShapes Go.WideShapes Go.ChangeAt Go.RowKit Go.Maps Go.Sort
set_option linter.unusedVariables false
structure RcS (W : World) (d : Nat) (S : Nat → Prop) (L : List Ac) (v : Value) : Prop where
  blk : W.heap[d]? = some (.cells #[v] 240)
  row : W.ownsRow 0 139 4 v L.length (kA.flat L)
  good : Good L
  sd : S d
  sv : ∀ g, v.ownBlock = some g → S g ∧ g ≠ d
  inh : ∀ k, S k → k < W.heap.size
def Rc (W : World) (d : Nat) (S : Nat → Prop) (L : List Ac) : Prop := ∃ v, RcS W d S L v
theorem Rc.keep {W W' : World} {d : Nat} {S : Nat → Prop} {L : List Ac} (h : Rc W d S L) (hs : W.heap.size ≤ W'.heap.size) (hk : ∀ k, S k → W'.heap[k]? = W.heap[k]?) : Rc W' d S L := by
  obtain ⟨v, h⟩ := h
  exact ⟨v, (hk d h.sd).trans h.blk, row_keep h.row (fun g hg => hk g (h.sv g hg).1), h.good, h.sd, h.sv, fun k hk' => Nat.lt_of_lt_of_le (h.inh k hk') hs⟩
theorem Rc.below {W W' : World} {d : Nat} {S : Nat → Prop} {L : List Ac} (h : Rc W d S L) (hb : Below W.heap.size W W') : Rc W' d S L := by
  have hi : ∀ k, S k → k < W.heap.size := by obtain ⟨v, h⟩ := h; exact h.inh
  exact h.keep hb.size (fun k hk => hb.block k (hi k hk))
theorem Rc.isGood {W : World} {d : Nat} {S : Nat → Prop} {L : List Ac} (h : Rc W d S L) : Good L := by obtain ⟨v, h⟩ := h; exact h.good
theorem Rc.open {W : World} {d : Nat} {S : Nat → Prop} {L : List Ac} (h : Rc W d S L) : ∃ p c, W.cell? ⟨d, 0, none⟩ = some (.slice p L.length c) ∧ W.frozen? ⟨d, 0, none⟩ = false ∧ Lies kA W p L ∧ (p = none → c = 0) ∧ (∀ a, p = some a → a.off = 0 ∧ a.spot = none) := by
  obtain ⟨v, h⟩ := h
  obtain ⟨p, c, rfl, h1, h2⟩ := row_slice h.row
  exact ⟨p, c, cell_of h.blk rfl, froz_of h.blk 0, own_lies (B := 0) kA_ok rfl h.row, fun e => (h1 e).2, fun a e => ⟨(h2 a e).1, (h2 a e).2.1⟩⟩
theorem acc_cells4 {X3 : World} {b off : Nat} {L : List Ac} (h : Lies kA X3 (some ⟨b, off, none⟩) L) {k : Nat} (hk : k < L.length) {Y : World} (hb : Below X3.heap.size X3 Y) :
    Y.cell? ⟨b, off + k * 4, none⟩ = some (.string (txN L[k].nm)) ∧ Y.cell? ⟨b, off + k * 4 + 1, none⟩ = some (.int .i64 L[k].ty) ∧ Y.cell? ⟨b, off + k * 4 + 2, none⟩ = some (.int .i64 L[k].dy) ∧ Y.cell? ⟨b, off + k * 4 + 3, none⟩ = some (.bool L[k].cl) := by
  obtain ⟨b', off', hp, hlt, hr⟩ := h.2 k hk
  cases hp
  have h2 : ∀ j v, (vals4 L[k])[j]? = some v → Y.cell? ⟨b, off + k * 4 + j, none⟩ = some v := fun j v hv => (hb.cell (p := ⟨b, off + k * 4 + j, none⟩) hlt).trans (hr j v hv)
  exact ⟨h2 0 _ rfl, h2 1 _ rfl, h2 2 _ rfl, h2 3 _ rfl⟩
theorem fnd_iff {L : List Ac} (hG : Good L) {x : Nm} {a : Ac} : fnd L x = some a ↔ a ∈ L ∧ a.nm = x :=
  ⟨fnd_some, fun ⟨h, e⟩ => by rw [← e]; exact fnd_of hG h⟩
def AtOut (L : List Ac) (x : Nm) (r : Int) : Prop := (∃ (i : Nat) (h : i < L.length), r = (i : Int) ∧ fnd L x = some L[i]) ∨ (r = -1 ∧ fnd L x = none)
theorem txt_ne {x : Nm} {t : ByteArray} (h : x ≠ t.data.toList) : ¬ (txN x).toList = t.toList ∧ ((txN x).toList == t.toList) = false := by
  have h1 : ¬ (txN x).toList = t.toList := by
    rw [ByteArray.toList_eq, ByteArray.toList_eq, txN_list]
    exact h
  exact ⟨h1, beq_eq_false_iff_ne.2 h1⟩
theorem txt_eq {x : Nm} {t : ByteArray} (h : x = t.data.toList) : txN x = t := by
  subst h
  obtain ⟨⟨l⟩⟩ := t
  rfl
theorem fnd_cons {a : Ac} {L : List Ac} {x : Nm} (h : a.nm ≠ x) : fnd (a :: L) x = fnd L x := by
  unfold fnd
  rw [List.find?_cons, decide_eq_false h]
theorem fnd_first : ∀ {L : List Ac} {x : Nm} {i : Nat} (hi : i < L.length), L[i].nm = x → (∀ j (h : j < L.length), j < i → L[j].nm ≠ x) → fnd L x = some L[i]
  | [], _, i, hi, _, _ => by simp at hi
  | a :: L, x, 0, hi, he, _ => by
    unfold fnd
    rw [List.find?_cons, decide_eq_true (show a.nm = x from he)]
    rfl
  | a :: L, x, i + 1, hi, he, hne => by
    have h0 : a.nm ≠ x := hne 0 (by simp) (by omega)
    rw [fnd_cons h0]
    exact fnd_first (L := L) (by simpa using hi) he (fun j h hj => hne (j + 1) (by simpa using h) (by omega))
set_option maxRecDepth 100000 in
set_option maxHeartbeats 4000000 in
theorem rat_raw {W : World} {d n c : Nat} {p : Option Addr} {L : List Ac} (hc : W.cell? ⟨d, 0, none⟩ = some (.slice p n c)) (hl : Lies kA W p L) (hn : L.length = n) (hn1 : n ≤ 4611686018427387904) (t : ByteArray) :
    Calls Tryz.prog 192 #[ptr d, .string t] W fun e w' => (∃ r, e = .returned (.int .i64 r) ∧ AtOut L t.data.toList r) ∧ w' = W := by
  have HL := hide hl
  have HN := hide hn
  clear hn hl
  go_enter Tryz.func192, Tryz.ntmps192
  go_wp2_with fail
  go_loopw [5] (fun v5 wr => ∃ i : Nat, i ≤ n ∧ v5 = .int .i64 i ∧ wr = W ∧ Hid (∀ j (h : j < L.length), j < i → L[j].nm ≠ t.data.toList)) (fun v5 _ => n - (intOf' v5).toNat)
  case atStart => exact ⟨0, Nat.zero_le _, rfl, rfl, fun j _ hj => by omega⟩
  case round =>
    obtain ⟨i, hi, rfl, rfl, hne⟩ := hrel
    by_cases hlt : i < n
    · have hiL : i < L.length := by rw [unhide HN]; exact hlt
      obtain ⟨b, off, hp, _, _⟩ := (unhide HL).2 i hiL
      subst hp
      have c0 := (acc_cells4 (unhide HL) hiL (Below.refl _ _)).1
      have hwi : IntKind.i64.wrap ((i : Int) + 1) = (i : Int) + 1 := wrapI (by omega) (by omega)
      by_cases he : L[i].nm = t.data.toList
      · have AO : Hid (AtOut L t.data.toList i) := .inl ⟨i, hiL, rfl, fnd_first hiL he (unhide hne)⟩
        rw [txt_eq he] at c0
        clear he hne
        go_wp2_with fail
        go_ret
        exact ⟨⟨_, rfl, unhide AO⟩, rfl⟩
      · obtain ⟨z1, z2⟩ := txt_ne he
        have HNE : Hid (∀ j (h : j < L.length), j < i + 1 → L[j].nm ≠ t.data.toList) := fun j h hj => by
          by_cases e : j = i
          · subst e; exact he
          · exact unhide hne j h (by omega)
        obtain ⟨T, hT⟩ : ∃ T, T = txN L[i].nm := ⟨_, rfl⟩
        rw [← hT] at c0 z1 z2
        clear he hne hT
        go_wp2_with fail
        refine ⟨⟨i + 1, by omega, by simp, trivial, unhide HNE⟩, ?_⟩
        show n - ((i : Int) + 1).toNat < n - ((i : Int)).toNat
        omega
    · have AO : Hid (AtOut L t.data.toList (-1)) := by
        refine .inr ⟨rfl, ?_⟩
        cases hf : fnd L t.data.toList with
        | none => rfl
        | some a =>
          obtain ⟨h1, h2⟩ := fnd_some hf
          obtain ⟨j, hj, rfl⟩ := List.mem_iff_getElem.1 h1
          exact absurd h2 (unhide hne j hj (by have := unhide HN; omega))
      have hin : i = n := by omega
      subst hin
      go_wp2_with fail
      go_ret
      exact ⟨⟨_, rfl, unhide AO⟩, rfl⟩
theorem rat_any {W : World} {d : Nat} {S : Nat → Prop} {L : List Ac} (h : Rc W d S L) (t : ByteArray) :
    Calls Tryz.prog 192 #[ptr d, .string t] W fun e w' => (∃ r, e = .returned (.int .i64 r) ∧ AtOut L t.data.toList r) ∧ w' = W := by
  obtain ⟨p, c, hc, _, hl, _, _⟩ := h.open
  exact rat_raw hc hl rfl (by have := h.isGood.len; omega) t
open Go Go.Shelf Go.ChangeShapes Go.WideShapes Go.ChangeAt Go.RowKit Go.Maps Go.Sort
set_option linter.unusedVariables false
theorem ris_any (z : Int) (w : World) : Calls Tryz.prog 96 #[.int .i64 z] w fun e w' => e = .returned (.bool (decide (1 ≤ z ∧ z ≤ 3652059))) ∧ w' = w := by
  by_cases h1 : 1 ≤ z
  · by_cases h2 : z ≤ 3652059
    · rw [decide_eq_true ⟨h1, h2⟩]
      go_enter Tryz.func96, Tryz.ntmps96
      go_wp2
      go_ret
      exact ⟨rfl, rfl⟩
    · rw [decide_eq_false (fun h => h2 h.2)]
      go_enter Tryz.func96, Tryz.ntmps96
      go_wp2
      go_ret
      exact ⟨rfl, rfl⟩
  · rw [decide_eq_false (fun h => h1 h.1)]
    go_enter Tryz.func96, Tryz.ntmps96
    go_wp2
    go_ret
    exact ⟨rfl, rfl⟩
section
attribute [local go_sem ↓] ld41_is
set_option maxRecDepth 100000 in
set_option maxHeartbeats 2000000 in
theorem rfind_any {W : World} {d : Nat} {S : Nat → Prop} {L : List Ac} (h : Rc W d S L) (t : ByteArray) :
    Calls Tryz.prog 125 #[ptr d, .string t] W fun e w' => e = .returned (.tuple #[acV (findA L t.data.toList), .bool (fnd L t.data.toList).isSome]) ∧ Below W.heap.size W w' := by
  obtain ⟨A0, hA0⟩ : ∃ A0, A0 = findA L t.data.toList := ⟨_, rfl⟩
  obtain ⟨G0, hG0⟩ : ∃ G0, G0 = (fnd L t.data.toList).isSome := ⟨_, rfl⟩
  rw [← hA0, ← hG0]
  have HA0 := hide hA0; have HG0 := hide hG0
  clear hA0 hG0
  have b0 : ∀ o, Below W.heap.size W (W.alloc o) := fun o => (Below.refl _ W).alloc (Nat.le_refl _) o
  have dA := hide (rat_any (h.below (b0 (.cells #[.string ⟨#[]⟩, .int .i64 0, .int .i64 0, .bool false] 139))) t)
  obtain ⟨p, c, hc, _, hl, _, _⟩ := (h.below (b0 (.cells #[.string ⟨#[]⟩, .int .i64 0, .int .i64 0, .bool false] 139))).open
  have HL := hide hl
  have hlen := h.isGood.len
  have r1 : (W.alloc (.cells #[.string ⟨#[]⟩, .int .i64 0, .int .i64 0, .bool false] 139)).heap[W.heap.size]? = some (.cells #[.string ⟨#[]⟩, .int .i64 0, .int .i64 0, .bool false] 139) := World.alloc_heap_new W _
  obtain ⟨n, hn⟩ : ∃ n, n = L.length := ⟨_, rfl⟩
  rw [← hn] at hc hlen
  have HN := hide hn
  have B0 := hide (b0 (.cells #[.string ⟨#[]⟩, .int .i64 0, .int .i64 0, .bool false] 139))
  obtain ⟨W1, hW1⟩ : ∃ W1, W1 = W.alloc (.cells #[.string ⟨#[]⟩, .int .i64 0, .int .i64 0, .bool false] 139) := ⟨_, rfl⟩
  rw [← hW1] at dA hc r1 B0 HL
  have HW1 := hide hW1
  have k0 : W1.cell? ⟨W.heap.size, 0, none⟩ = some (.string ⟨#[]⟩) := cell_of r1 rfl
  have k1 : W1.cell? ⟨W.heap.size, 1, none⟩ = some (.int .i64 0) := cell_of r1 rfl
  have k2 : W1.cell? ⟨W.heap.size, 2, none⟩ = some (.int .i64 0) := cell_of r1 rfl
  have k3 : W1.cell? ⟨W.heap.size, 3, none⟩ = some (.bool false) := cell_of r1 rfl
  have f0 := froz_of r1 0; have f1 := froz_of r1 1; have f2 := froz_of r1 2; have f3 := froz_of r1 3
  have R1 := hide r1
  clear h hl hn b0 r1 hW1
  go_enter Tryz.func125, Tryz.ntmps125
  go_upto_region 2 with (rw [← unhide HW1]; go_at_call 192; refine (unhide dA).mono ?_; rintro e X ⟨⟨r, rfl, ho⟩, hX⟩; rw [hX]; clear hX)
  rcases ho with ⟨i, hi, rfl, hf⟩ | ⟨rfl, hf⟩
  · have e1 : A0 = L[i] := by rw [unhide HA0, findA, hf]; rfl
    have e2 : G0 = true := by rw [unhide HG0, hf]; rfl
    subst e2
    obtain ⟨b, off, hp, hbW, hr⟩ := (unhide HL).2 i hi
    subst hp
    have hin : i < n := by rw [unhide HN]; exact hi
    have hld := run_ld41 (b := b) (o := off + i * 4) (a := L[i]) hr
    rw [← e1] at hld
    unfold acV at hld
    clear hf dA hr e1
    go_wp2
    refine bodyPost_ret (results_ct (v := acV A0) (u := .bool true) Tryz.results125 rfl rfl (lv41 (range4 (st4_is (unhide R1) A0)))) rfl ?_
    exact ⟨rfl, st4_below (unhide B0) (Nat.le_refl _) A0⟩
  · have e1 : A0 = top0 := by rw [unhide HA0, findA, hf]; rfl
    have e2 : G0 = false := by rw [unhide HG0, hf]; rfl
    subst e1 e2
    clear hf dA
    go_wp2
    refine bodyPost_ret (results_ct (v := acV top0) (u := .bool false) Tryz.results125 rfl rfl (lv41 (range4 (st4_is (unhide R1) top0)))) rfl ?_
    exact ⟨rfl, st4_below (unhide B0) (Nat.le_refl _) top0⟩
end
def kT : Kd Nm := ⟨fun x => [.string (txN x)], 1, 93, 9, 16⟩
theorem kT_ok : KdOK kT := kd_ok (fun _ => rfl) (by decide) (fun x u hu => by simp [kT] at hu; rcases hu with rfl; rfl) Tryz.underlying93 (z := .string ⟨#[]⟩) (by kernel_rfl) rfl (by decide)
def RKidOut (W : World) (K : List Nm) (e : Ending) (w' : World) : Prop := ∃ v, e = .returned v ∧ w'.ownsRow W.heap.size 9 1 v K.length (kT.flat K) ∧ Below W.heap.size W w'
theorem kids_snoc (L : List Ac) {i : Nat} (hi : i < L.length) (x : Nm) : kids (L.take (i + 1)) x = if par L[i].nm = x then kids (L.take i) x ++ [L[i].nm] else kids (L.take i) x := by
  unfold kids
  rw [← List.take_append_getElem hi, List.filter_append, List.map_append]
  by_cases h : par L[i].nm = x
  · rw [if_pos h, List.filter_cons_of_pos (by simpa using h)]
    rfl
  · rw [if_neg h, List.filter_cons_of_neg (by simpa using h)]
    simp
theorem par_parS {x : Nm} (h : nameL x = true) : (parS x).1 = txN (par x) := by
  rw [parS, if_pos h, par]
  rcases ups_cases x with e | ⟨p, e, _⟩
  · rw [e]; rfl
  · rw [e]; rfl
set_option maxRecDepth 100000 in
set_option maxHeartbeats 4000000 in
theorem rkids_any {W : World} {d : Nat} {S : Nat → Prop} {L : List Ac} (h : Rc W d S L) (t : ByteArray) :
    Calls Tryz.prog 193 #[ptr d, .string t] W fun e w' => RKidOut W (kids L t.data.toList) e w' := by
  have HC := hide h
  have HG := hide h.isGood
  have hlen := h.isGood.len
  obtain ⟨x, hx⟩ : ∃ x, x = t.data.toList := ⟨_, rfl⟩
  have HX := hide hx
  rw [← hx]
  obtain ⟨n, hn⟩ : ∃ n, n = L.length := ⟨_, rfl⟩
  have HN := hide hn
  rw [← hn] at hlen
  clear h hx hn
  go_enter Tryz.func193, Tryz.ntmps193
  go_wp2_with fail
  go_loopw [5, 6] (fun v5 v6 wr => ∃ (i m c : Nat) (p : Option Addr), i ≤ n ∧ m ≤ i ∧ v5 = .slice p m c ∧ v6 = .int .i64 i ∧ Hid (Below W.heap.size W wr ∧ (kids (L.take i) x).length = m ∧ wr.ownsRow W.heap.size 9 1 (.slice p m c) m (kT.flat (kids (L.take i) x)))) (fun _ v6 _ => n - (intOf' v6).toNat)
  case atStart => exact ⟨0, 0, 0, none, Nat.zero_le _, Nat.le_refl _, rfl, rfl, Below.refl _ _, rfl, World.ownsRow_nil _ _ _ _⟩
  case round =>
    obtain ⟨i, m, c, p, hi, hmi, rfl, rfl, hrel⟩ := hrel
    obtain ⟨w5, hw5⟩ : ∃ w5, w5 = wr := ⟨_, rfl⟩
    rw [← hw5] at hrel ⊢
    clear hw5
    have hR5 := (unhide HC).below (unhide hrel).1
    obtain ⟨pl, cl, hc, _, hl, _, _⟩ := hR5.open
    rw [← unhide HN] at hc
    have HL := hide hl
    clear hl hR5
    by_cases hlt : i < n
    · have hiL : i < L.length := by rw [← unhide HN]; exact hlt
      obtain ⟨b, off, hp, _, _⟩ := (unhide HL).2 i hiL
      subst hp
      have c0 := (acc_cells4 (unhide HL) hiL (Below.refl _ _)).1
      have hnm := (unhide HG).name _ (List.getElem_mem hiL)
      have dP := hide (rparent_any (txN L[i].nm) (name_size hnm) w5)
      rw [txN_list, par_parS hnm] at dP
      have hsn := kids_snoc L hiL x
      have hwi : IntKind.i64.wrap ((i : Int) + 1) = (i : Int) + 1 := wrapI (by omega) (by omega)
      have HC1 : Hid (∀ Y, Below w5.heap.size w5 Y → Y.cell? ⟨d, 0, none⟩ = some (.slice (some ⟨b, off, none⟩) n cl) ∧ Y.cell? ⟨b, off + i * 4, none⟩ = some (.string (txN L[i].nm))) := fun Y hY => ⟨(hY.cell (p := ⟨d, 0, none⟩) (World.block_lt_of_cell? _ _ hc)).trans hc, (acc_cells4 (unhide HL) hiL hY).1⟩
      obtain ⟨y, hy⟩ : ∃ y, y = L[i].nm := ⟨_, rfl⟩
      rw [← hy] at c0 dP hsn HC1
      obtain ⟨T, hT⟩ : ∃ T, T = txN y := ⟨_, rfl⟩
      have HT := hide hT
      rw [← hT] at c0 dP HC1
      clear hnm hy hT
      by_cases he : par y = x
      · rw [if_pos he] at hsn
        have hTt : txN (par y) = t := txt_eq (by rw [he, unhide HX])
        rw [hTt] at dP
        have HAPP : Hid (∀ Y, Below w5.heap.size w5 Y → ∃ p' c' w', (Builtin.append_ #[93, 93] 93 #[.slice p m c, .slice (some ⟨Y.heap.size, 0, none⟩) 1 1]).run Tryz.prog (Y.alloc (.cells #[.string T] 9)) = .ok (.slice p' (m + 1) c') w' ∧ Hid (Below W.heap.size W w' ∧ (kids (L.take (i + 1)) x).length = m + 1 ∧ w'.ownsRow W.heap.size 9 1 (.slice p' (m + 1) c') (m + 1) (kT.flat (kids (L.take (i + 1)) x)))) := fun Y hY => by
          have hb5 := (unhide hrel).1
          have hrow := row_keep (unhide hrel).2.2 (fun g hg => ((Below.heap_alloc Y (.cells #[.string T] 9) g (Nat.lt_of_lt_of_le (row_block (unhide hrel).2.2 hg).2.1 hY.size)).trans (hY.block g (row_block (unhide hrel).2.2 hg).2.1)))
          obtain ⟨p', c', w', hr, ho, hb, _⟩ := run_app kT_ok (L := kids (L.take i) x) (M := [y]) (n := m) 93 hrow (by rw [World.size_alloc]; have := hb5.size; have := hY.size; omega) (some ⟨Y.heap.size, 0, none⟩) 1 (fun h => by cases h) (one_lies Y y 9 #[.string T] (by rw [unhide HT]; rfl)) (by simp; omega)
          refine ⟨p', c', w', hr, (((hb5.trans (hY.mono hb5.size))).alloc (Nat.le_trans hb5.size hY.size) _).trans hb, by rw [hsn, List.length_append, (unhide hrel).2.1]; rfl, ?_⟩
          rw [hsn]
          exact ho
        clear he hsn hTt hrel
        go_upto_region 6 with (go_at_call 239; refine (unhide dP).mono ?_; rintro e Y ⟨rfl, hb⟩; have HCY := unhide HC1 Y hb; have cd := HCY.1; have c1 := HCY.2; obtain ⟨p', c', w', hr, hf⟩ := unhide HAPP Y hb; have HR := hide hr; clear hr hb HCY)
        clear c0 hc
        go_wp2_with (at_builtin; refine wpList_append_run rfl _ _ 93 rfl _ _ _ _ rfl rfl (unhide HR) ?_)
        refine ⟨⟨i + 1, m + 1, c', p', by omega, by omega, by first | rfl | simp, by simp, hf⟩, ?_⟩
        show n - ((i : Int) + 1).toNat < n - ((i : Int)).toNat
        omega
      · rw [if_neg he] at hsn
        obtain ⟨z1, z2⟩ := txt_ne (x := par y) (t := t) (by rw [← unhide HX]; exact he)
        obtain ⟨Q, hQ⟩ : ∃ Q, Q = txN (par y) := ⟨_, rfl⟩
        rw [← hQ] at dP z1 z2
        have HB5 : Hid (∀ Y, Below w5.heap.size w5 Y → Below W.heap.size W Y ∧ (kids (L.take (i + 1)) x).length = m ∧ Y.ownsRow W.heap.size 9 1 (.slice p m c) m (kT.flat (kids (L.take (i + 1)) x))) := fun Y hY => by
          have hb5 := (unhide hrel).1
          rw [hsn]
          exact ⟨hb5.trans (hY.mono hb5.size), (unhide hrel).2.1, row_keep (unhide hrel).2.2 (fun g hg => hY.block g (row_block (unhide hrel).2.2 hg).2.1)⟩
        clear he hsn hQ hrel
        go_upto_region 6 with (go_at_call 239; refine (unhide dP).mono ?_; rintro e Y ⟨rfl, hb⟩; have HF := hide (unhide HB5 Y hb); clear hb)
        go_wp2_with fail
        refine ⟨⟨i + 1, m, c, p, by omega, by omega, rfl, by simp, unhide HF⟩, ?_⟩
        show n - ((i : Int) + 1).toNat < n - ((i : Int)).toNat
        omega
    · have hin : i = n := by omega
      subst hin
      have HF : Hid (RKidOut W (kids L x) (.returned (.slice p m c)) w5) := by
        obtain ⟨h1, h2, h3⟩ := unhide hrel
        rw [List.take_of_length_le (by rw [← unhide HN]; exact Nat.le_refl _)] at h2 h3
        exact ⟨_, rfl, by rw [h2]; exact h3, h1⟩
      clear hrel
      go_wp2_with fail
      go_ret
      exact unhide HF
open Go Go.Shelf Go.ChangeShapes Go.WideShapes Go.ChangeAt Go.RowKit Go.Maps Go.Sort
set_option linter.unusedVariables false
section
variable {α : Type} {K : Kd α}
end
open Go Go.Shelf Go.ChangeShapes Go.WideShapes Go.ChangeAt Go.RowKit Go.Maps Go.Sort
set_option linter.unusedVariables false
section
attribute [local go_sem ↓] ld41_is
end
open Go Go.Shelf Go.ChangeShapes Go.WideShapes Go.ChangeAt Go.RowKit Go.Maps Go.Sort
set_option linter.unusedVariables false
def rfitB (L : List Ac) (a : Ac) : Bool := nameL a.nm && decide (1 ≤ a.dy ∧ a.dy ≤ 3652059) && decide (1 ≤ a.ty ∧ a.ty ≤ 5) && (match ups a.nm with
  | [] => true
  | p :: _ => match fnd L p with
    | none => false
    | some b => (b.ty == a.ty) && decide (b.dy ≤ a.dy) && (!b.cl || a.cl))
section
set_option maxRecDepth 100000 in
set_option maxHeartbeats 8000000 in
theorem rfits_any {W : World} {d n c : Nat} {p : Option Addr} {L : List Ac} (hc : W.cell? ⟨d, 0, none⟩ = some (.slice p n c)) (hl : Lies kA W p L) (hn : L.length = n) (hn1 : n ≤ 4611686018427387904) (a : Ac) (hsz : (txN a.nm).size < 4611686018427387904) :
    Calls Tryz.prog 191 #[ptr d, acV a] W fun e w' => e = .returned (.bool (rfitB L a)) ∧ Below W.heap.size W w' := by
  obtain ⟨F, hF⟩ : ∃ F, F = rfitB L a := ⟨_, rfl⟩
  rw [← hF]
  have hd := World.block_lt_of_cell? W _ hc
  have HBX : Hid (∀ Y, Below (W.heap.size + 1) (W.alloc (.cells #[.string (txN a.nm), .int .i64 a.ty, .int .i64 a.dy, .bool a.cl] 139)) Y → (Y.cell? ⟨W.heap.size, 0, none⟩ = some (.string (txN a.nm)) ∧ Y.cell? ⟨W.heap.size, 1, none⟩ = some (.int .i64 a.ty) ∧ Y.cell? ⟨W.heap.size, 2, none⟩ = some (.int .i64 a.dy) ∧ Y.cell? ⟨W.heap.size, 3, none⟩ = some (.bool a.cl)) ∧ Below W.heap.size W Y ∧ Y.cell? ⟨d, 0, none⟩ = some (.slice p n c)) := fun Y hb => by
    have r1 : Y.heap[W.heap.size]? = some (.cells #[.string (txN a.nm), .int .i64 a.ty, .int .i64 a.dy, .bool a.cl] 139) := (hb.block W.heap.size (by omega)).trans (World.alloc_heap_new W _)
    have h1 : Below W.heap.size W Y := ((Below.refl _ W).alloc (Nat.le_refl _) _).trans (hb.mono (by omega))
    exact ⟨⟨cell_of r1 rfl, cell_of r1 rfl, cell_of r1 rfl, cell_of r1 rfl⟩, h1, (h1.cell (p := ⟨d, 0, none⟩) hd).trans hc⟩
  have dG := hide (rgood_any (txN a.nm) hsz)
  have dD := hide (ris_any a.dy)
  have dP := hide (rparent_any (txN a.nm) hsz)
  rw [txN_list] at dG dP
  have HL := hide hl; have HN := hide hn
  obtain ⟨W1, hW1⟩ : ∃ W1, W1 = W.alloc (.cells #[.string (txN a.nm), .int .i64 a.ty, .int .i64 a.dy, .bool a.cl] 139) := ⟨_, rfl⟩
  have HW1 := hide hW1
  have zz1 : W1.heap.size = W.heap.size + 1 := by rw [hW1]; simp
  rw [← hW1] at HBX
  have h1x := unhide HBX W1 (Below.refl _ _)
  have k0 := h1x.1.1; have k1 := h1x.1.2.1; have k2 := h1x.1.2.2.1; have k3 := h1x.1.2.2.2
  have B1 := hide h1x.2.1
  unfold rfitB at hF
  clear hc hl hn hW1 h1x
  unfold acV
  cases hnm : nameL a.nm with
  | false =>
    have e1 : F = false := by rw [hF, hnm]; rfl
    rw [hnm] at dG
    subst e1
    clear hF hnm dD dP
    cases hdd : decide (1 ≤ a.dy ∧ a.dy ≤ 3652059) <;>
    · have dD := hide (ris_any a.dy)
      rw [hdd] at dD
      clear hdd
      as_aux_lemma =>
        go_enter Tryz.func191, Tryz.ntmps191
        go_wp2_with (first | (go_at_call 238; rw [← unhide HW1]; refine (unhide dG _).mono ?_; rintro e X ⟨rfl, hX⟩; rw [hX]; clear hX) | (go_at_call 96; refine (unhide dD _).mono ?_; rintro e X2 ⟨rfl, hX⟩; rw [hX]; clear hX))
        go_ret
        exact ⟨rfl, unhide B1⟩
  | true =>
    rw [hnm] at dG
    have hF1 : F = (decide (1 ≤ a.dy ∧ a.dy ≤ 3652059) && decide (1 ≤ a.ty ∧ a.ty ≤ 5) && (match ups a.nm with
      | [] => true
      | p :: _ => match fnd L p with
        | none => false
        | some b => (b.ty == a.ty) && decide (b.dy ≤ a.dy) && (!b.cl || a.cl))) := by rw [hF, hnm]; rfl
    clear hF
    cases hdd : decide (1 ≤ a.dy ∧ a.dy ≤ 3652059) with
    | false =>
      have e1 : F = false := by rw [hF1, hdd]; rfl
      rw [hdd] at dD
      subst e1
      clear hF1 hdd hnm
      as_aux_lemma =>
        go_enter Tryz.func191, Tryz.ntmps191
        go_wp2_with (first | (go_at_call 238; rw [← unhide HW1]; refine (unhide dG _).mono ?_; rintro e X ⟨rfl, hX⟩; rw [hX]; clear hX) | (go_at_call 96; refine (unhide dD _).mono ?_; rintro e X2 ⟨rfl, hX⟩; rw [hX]; clear hX))
        go_ret
        exact ⟨rfl, unhide B1⟩
    | true =>
      rw [hdd] at dD hF1
      rw [Bool.true_and] at hF1
      clear hdd
      by_cases ht1 : a.ty < 1
      · have e1 : F = false := by rw [hF1, decide_eq_false (by omega)]; rfl
        subst e1
        clear hF1 hnm
        as_aux_lemma =>
          go_enter Tryz.func191, Tryz.ntmps191
          go_wp2_with (first | (go_at_call 238; rw [← unhide HW1]; refine (unhide dG _).mono ?_; rintro e X ⟨rfl, hX⟩; rw [hX]; clear hX) | (go_at_call 96; refine (unhide dD _).mono ?_; rintro e X2 ⟨rfl, hX⟩; rw [hX]; clear hX))
          go_ret
          exact ⟨rfl, unhide B1⟩
      by_cases ht5 : 5 < a.ty
      · have e1 : F = false := by rw [hF1, decide_eq_false (by omega)]; rfl
        subst e1
        clear hF1 hnm
        as_aux_lemma =>
          go_enter Tryz.func191, Tryz.ntmps191
          go_wp2_with (first | (go_at_call 238; rw [← unhide HW1]; refine (unhide dG _).mono ?_; rintro e X ⟨rfl, hX⟩; rw [hX]; clear hX) | (go_at_call 96; refine (unhide dD _).mono ?_; rintro e X2 ⟨rfl, hX⟩; rw [hX]; clear hX))
          go_ret
          exact ⟨rfl, unhide B1⟩
      rw [decide_eq_true (show 1 ≤ a.ty ∧ a.ty ≤ 5 by omega), Bool.true_and] at hF1
      rcases ups_cases a.nm with e | ⟨p2, e, hp2, _⟩
      · rw [e] at hF1
        have e1 : F = true := hF1
        have hps : parS a.nm = (⟨#[]⟩, false) := by rw [parS, if_pos hnm, e]
        rw [hps] at dP
        subst e1
        clear hF1 hnm hps e
        as_aux_lemma =>
          go_enter Tryz.func191, Tryz.ntmps191
          go_wp2_with (first | (go_at_call 238; rw [← unhide HW1]; refine (unhide dG _).mono ?_; rintro e X ⟨rfl, hX⟩; rw [hX]; clear hX) | (go_at_call 96; refine (unhide dD _).mono ?_; rintro e X2 ⟨rfl, hX⟩; rw [hX]; clear hX) | (go_at_call 239; refine (unhide dP _).mono ?_; rintro e Y ⟨rfl, hb⟩; have BF := hide ((unhide B1).trans (hb.mono (unhide B1).size)); clear hb))
          go_ret
          exact ⟨rfl, unhide BF⟩
      · rw [e] at hF1
        change F = (match fnd L p2 with | none => false | some b => (b.ty == a.ty) && decide (b.dy ≤ a.dy) && (!b.cl || a.cl)) at hF1
        have hps : parS a.nm = (txN p2, true) := by rw [parS, if_pos hnm, e]
        rw [hps] at dP
        have dA : Hid (∀ Y, Below (W.heap.size + 1) W1 Y → Calls Tryz.prog 192 #[ptr d, .string (txN p2)] Y fun e w' => (∃ r, e = .returned (.int .i64 r) ∧ AtOut L p2 r) ∧ w' = Y) := fun Y hY => by
          have h1 := unhide HBX Y hY
          have h2 := rat_raw h1.2.2 ((unhide HL).below h1.2.1) (unhide HN) hn1 (txN p2)
          rw [txN_list] at h2
          exact h2
        clear hps e hnm
        go_enter Tryz.func191, Tryz.ntmps191
        go_upto_region 8 with (first | (go_at_call 238; rw [← unhide HW1]; refine (unhide dG _).mono ?_; rintro e X ⟨rfl, hX⟩; rw [hX]; clear hX) | (go_at_call 96; refine (unhide dD _).mono ?_; rintro e X2 ⟨rfl, hX⟩; rw [hX]; clear hX) | (go_at_call 239; refine (unhide dP _).mono ?_; rintro e Y ⟨rfl, hb⟩; have BY := hide hb; clear hb))
        have hbY : Below (W.heap.size + 1) W1 Y := (unhide BY).mono (by omega)
        have hy := unhide HBX Y hbY
        have y0 := hy.1.1; have y1 := hy.1.2.1; have y2 := hy.1.2.2.1; have y3 := hy.1.2.2.2; have yd := hy.2.2
        have HY := hide hy.2.1
        have HA := hide (unhide dA Y hbY)
        clear hy k0 k1 k2 k3 dG dD dP dA hbY
        go_upto_region 9 with (go_at_call 192; refine (unhide HA).mono ?_; rintro e X4 ⟨⟨r, rfl, ho⟩, hX⟩; rw [hX]; clear hX)
        rcases ho with ⟨i, hi, rfl, hf⟩ | ⟨rfl, hf⟩
        · rw [hf] at hF1
          have hF2 : F = ((L[i].ty == a.ty) && decide (L[i].dy ≤ a.dy) && (!L[i].cl || a.cl)) := hF1
          obtain ⟨b, off, hp9, _, _⟩ := (unhide HL).2 i hi
          subst hp9
          have hc4 := acc_cells4 (unhide HL) hi (unhide HY)
          have c1 := hc4.2.1; have c2 := hc4.2.2.1; have c3 := hc4.2.2.2
          have hin : i < n := by rw [← unhide HN]; exact hi
          have hi0 : (0 : Int) ≤ (i : Int) := by omega
          obtain ⟨q, hq⟩ : ∃ q, q = L[i] := ⟨_, rfl⟩
          rw [← hq] at c1 c2 c3 hF2
          clear hF1 hf hq hc4 HA
          by_cases g1 : q.ty = a.ty
          · rw [g1] at c1
            by_cases g2 : q.dy ≤ a.dy
            · have g2b : decide (q.dy ≤ a.dy) = true := decide_eq_true g2
              cases g3 : q.cl with
              | false =>
                have e1 : F = true := by rw [hF2, g1, g2b, g3]; simp
                rw [g3] at c3
                subst e1
                clear hF2 g3
                as_aux_lemma =>
                  go_wp2_with fail
                  go_quiet (fail)
                  go_wp2_with fail
                  go_ret
                  exact ⟨rfl, below_drewN (unhide HY) _⟩
              | true =>
                rw [g3] at c3
                cases g4 : a.cl with
                | false =>
                  have e1 : F = false := by rw [hF2, g1, g2b, g3, g4]; simp
                  rw [g4] at y3
                  subst e1
                  clear hF2 g3 g4
                  as_aux_lemma =>
                    go_wp2_with fail
                    go_quiet (fail)
                    go_wp2_with fail
                    go_ret
                    exact ⟨rfl, below_drewN (unhide HY) _⟩
                | true =>
                  have e1 : F = true := by rw [hF2, g1, g2b, g3, g4]; simp
                  rw [g4] at y3
                  subst e1
                  clear hF2 g3 g4
                  as_aux_lemma =>
                    go_wp2_with fail
                    go_quiet (fail)
                    go_wp2_with fail
                    go_ret
                    exact ⟨rfl, below_drewN (unhide HY) _⟩
            · have g2b : decide (q.dy ≤ a.dy) = false := decide_eq_false g2
              have e1 : F = false := by rw [hF2, g1, g2b]; simp
              subst e1
              clear hF2
              as_aux_lemma =>
                go_wp2_with fail
                go_quiet (fail)
                go_wp2_with fail
                go_ret
                exact ⟨rfl, below_drewN (unhide HY) _⟩
          · have g1b : (q.ty == a.ty) = false := by simpa using g1
            have e1 : F = false := by rw [hF2, g1b]; simp
            subst e1
            clear hF2
            as_aux_lemma =>
              go_wp2_with fail
              go_quiet (fail)
              go_wp2_with fail
              go_ret
              exact ⟨rfl, below_drewN (unhide HY) _⟩
        · rw [hf] at hF1
          have e1 : F = false := hF1
          subst e1
          clear hF1 hf HA
          as_aux_lemma =>
            go_wp2_with fail
            go_quiet (fail)
            go_wp2_with fail
            go_ret
            exact ⟨rfl, below_drewN (unhide HY) _⟩
end
open Go Go.Shelf Go.ChangeShapes Go.WideShapes Go.ChangeAt Go.RowKit Go.Maps Go.Sort
set_option linter.unusedVariables false
theorem good_take {l : List Ac} (hlen : l.length ≤ 100) : ∀ i, i ≤ l.length → okTo l i → Good (l.take i)
  | 0, _, _ => by rw [List.take_zero]; exact good_nil
  | i + 1, hi, hok => by
    have hG := good_take hlen i (by omega) (fun j h hj => hok j h (by omega))
    have hil : i < l.length := by omega
    have hoi := hok i hil (by omega)
    have hrt := rise_take hil hG hoi.1
    have hfts := fit_fits hG hoi.2 hrt (by rw [List.length_take]; omega)
    have h := hG.ins hfts
    rw [ins_take hil hrt] at h
    exact h
theorem ok_good {l : List Ac} : fromOk l ↔ Good l := ⟨fun h => by
  have h1 := good_take h.1 l.length (Nat.le_refl _) h.2
  rwa [List.take_length] at h1, good_ok⟩
def rokAt (l : List Ac) (j : Nat) : Prop := ∃ hj : j < l.length, rfitB l l[j] = true ∧ (0 < j → (l[j - 1]'(by omega)).nm < l[j].nm)
theorem rok_good {l : List Ac} (hlen : l.length ≤ 100) : (∀ j, j < l.length → rokAt l j) ↔ Good l := by
  constructor
  · intro h
    have key : ∀ (d i : Nat) (h1 : i + d + 1 < l.length), (l[i]'(by omega)).nm < l[i + d + 1].nm := fun d => by
      induction d with
      | zero =>
        intro i h1
        obtain ⟨_, _, h2⟩ := h (i + 1) h1
        exact h2 (by omega)
      | succ d ih =>
        intro i h1
        obtain ⟨_, _, h2⟩ := h (i + (d + 1) + 1) h1
        exact slt_trans (ih i (by omega)) (h2 (by omega))
    have hr : l.Pairwise fun a b => a.nm < b.nm := List.pairwise_iff_getElem.2 (fun i j hi hj hij => by
      have h1 := key (j - i - 1) i (by omega)
      have e : i + (j - i - 1) + 1 = j := by omega
      simp only [e] at h1
      exact h1)
    have hf : ∀ a ∈ l, rfitB l a = true := fun a ha => by
      obtain ⟨j, hj, rfl⟩ := List.mem_iff_getElem.1 ha
      exact (h j hj).2.1
    have hu : ∀ a ∈ l, nameL a.nm = true ∧ (1 ≤ a.dy ∧ a.dy ≤ 3652059) ∧ (1 ≤ a.ty ∧ a.ty ≤ 5) ∧ (match ups a.nm with
      | [] => true
      | p :: _ => match fnd l p with
        | none => false
        | some b => (b.ty == a.ty) && decide (b.dy ≤ a.dy) && (!b.cl || a.cl)) = true := fun a ha => by
      have h1 := hf a ha
      unfold rfitB at h1
      simp only [Bool.and_eq_true, decide_eq_true_eq] at h1
      exact ⟨h1.1.1.1, h1.1.1.2, h1.1.2, h1.2⟩
    refine ⟨hr, fun a ha => (hu a ha).1, fun a ha p t e => ?_, fun a ha => (hu a ha).2.1, fun a ha => (hu a ha).2.2.1, hlen⟩
    have h1 := (hu a ha).2.2.2
    rw [e] at h1
    change (match fnd l p with | none => false | some b => (b.ty == a.ty) && decide (b.dy ≤ a.dy) && (!b.cl || a.cl)) = true at h1
    cases hfn : fnd l p with
    | none => rw [hfn] at h1; cases h1
    | some b =>
      rw [hfn] at h1
      obtain ⟨g1, g2⟩ := fnd_some hfn
      simp only [Bool.and_eq_true, decide_eq_true_eq, beq_iff_eq, Bool.or_eq_true, Bool.not_eq_true'] at h1
      refine ⟨b, g1, g2, h1.1.1, h1.1.2, fun hc => ?_⟩
      rcases h1.2 with h2 | h2
      · rw [h2] at hc; cases hc
      · exact h2
  · intro hG j hj
    refine ⟨hj, ?_, fun h0 => List.pairwise_iff_getElem.1 hG.rise (j - 1) j (by omega) hj (by omega)⟩
    have ha : l[j] ∈ l := List.getElem_mem hj
    obtain ⟨a, hae⟩ : ∃ a, a = l[j] := ⟨_, rfl⟩
    rw [← hae] at ha ⊢
    unfold rfitB
    rw [hG.name a ha, decide_eq_true (hG.day a ha), decide_eq_true (hG.typ a ha)]
    simp only [Bool.true_and]
    rcases ups_cases a.nm with e | ⟨p, e, _⟩
    · rw [e]
    · rw [e]
      change (match fnd l p with | none => false | some b => (b.ty == a.ty) && decide (b.dy ≤ a.dy) && (!b.cl || a.cl)) = true
      obtain ⟨b, hb, hbp, h1, h2, h3⟩ := hG.up a ha p _ e
      rw [(fnd_iff hG).2 ⟨hb, hbp⟩]
      simp only [Bool.and_eq_true, decide_eq_true_eq, beq_iff_eq, Bool.or_eq_true, Bool.not_eq_true']
      refine ⟨⟨h1, h2⟩, ?_⟩
      cases hc : b.cl with
      | false => exact .inl rfl
      | true => exact .inr (h3 hc)
def RFromOut (W : World) (l : List Ac) (e : Ending) (w' : World) : Prop :=
  ((Good l ∧ ∃ d S, e = .returned (.tuple #[ptr d, .int .i64 0]) ∧ Rc w' d S l ∧ ∀ k, S k → W.heap.size ≤ k) ∨ (¬ Good l ∧ e = .returned (.tuple #[.pointer none, .int .i64 67]))) ∧ Below W.heap.size W w'
section
attribute [local go_sem ↓] ld41_is
set_option maxRecDepth 100000 in
set_option maxHeartbeats 16000000 in
theorem rfrom_any {W : World} {p : Option Addr} {n c : Nat} {l : List Ac} (hl : l.length = n) (hn : n ≤ 1099511627776) (hL : Lies kA W p l) (hpc : p = none → c = 0) (hsz : ∀ a ∈ l, (txN a.nm).size < 4611686018427387904) :
    Calls Tryz.prog 124 #[.slice p n c] W fun e w' => RFromOut W l e w' := by
  obtain ⟨d, hd⟩ : ∃ d, d = W.heap.size := ⟨_, rfl⟩
  obtain ⟨W1, hW1⟩ : ∃ W1, W1 = W.alloc (.cells #[.slice none 0 0] 240) := ⟨_, rfl⟩
  have z1 : W1.heap.size = d + 1 := by rw [hW1, hd]; simp
  have b1 : Below W.heap.size W W1 := by rw [hW1]; exact (Below.refl _ W).alloc (Nat.le_refl _) _
  have r1 : W1.heap[d]? = some (.cells #[.slice none 0 0] 240) := by rw [hW1, hd]; exact World.alloc_heap_new W _
  have c1 : W1.cell? ⟨d, 0, none⟩ = some (.slice none 0 0) := cell_of r1 rfl
  have f1 : W1.frozen? ⟨d, 0, none⟩ = false := froz_of r1 0
  obtain ⟨p2, c2, W2, hr2, ho2, hb2, _⟩ := run_app kA_ok (L := []) (M := l) (v := .slice none 0 0) (n := 0) (B := W1.heap.size) 55 (World.ownsRow_nil _ _ _ _) (Nat.le_refl _) p c hpc (hL.below b1) (by omega)
  rw [Nat.zero_add, hl] at hr2 ho2
  rw [List.nil_append] at ho2
  have r2 : W2.heap[d]? = some (.cells #[.slice none 0 0] 240) := (hb2.block d (by omega)).trans r1
  have c2d : W2.cell? ⟨d, 0, none⟩ = some (.slice none 0 0) := cell_of r2 rfl
  have f2 : W2.frozen? ⟨d, 0, none⟩ = false := froz_of r2 0
  have b2 : Below W.heap.size W W2 := b1.trans (hb2.mono b1.size)
  obtain ⟨X, hX⟩ : ∃ X, X = W2.setCell ⟨d, 0, none⟩ (.slice p2 n c2) := ⟨_, rfl⟩
  have bX : Below W.heap.size W X := by rw [hX]; exact b2.setCell (by rw [hd]; exact Nat.le_refl _) _
  have rX : X.heap[d]? = some (.cells #[.slice p2 n c2] 240) := by rw [hX]; exact heap_set r2 _
  have oX : X.ownsRow W1.heap.size 139 4 (.slice p2 n c2) n (kA.flat l) := by
    rw [hX]
    refine row_keep ho2 (fun g hg => Below.heap_setCell _ _ _ _ (fun e => ?_))
    have h1 := (row_block ho2 hg).1
    have e2 : g = d := e
    omega
  have lX : Lies kA X p2 l := own_lies kA_ok hl oX
  have cX : X.cell? ⟨d, 0, none⟩ = some (.slice p2 n c2) := cell_of rX rfl
  have HRC : Hid (Good l → ∀ Y, Below X.heap.size X Y → Rc Y d (fun k => k = d ∨ (Value.slice p2 n c2).ownBlock = some k) l) := fun hG Y hY => by
    refine Rc.below (W := X) ⟨.slice p2 n c2, rX, by rw [hl]; exact row_le oX (Nat.zero_le _), hG, .inl rfl, fun g hg => ⟨.inr hg, fun e => ?_⟩, fun k hk => ?_⟩ hY
    · have h1 := (row_block oX hg).1
      omega
    · rcases hk with rfl | hk
      · exact (Array.getElem?_eq_some_iff.1 rX).1
      · exact (row_block oX hk).2.1
  have HNS : Hid (∀ k, (k = d ∨ (Value.slice p2 n c2).ownBlock = some k) → W.heap.size ≤ k) := fun k hk => by
    rcases hk with rfl | hk
    · rw [hd]; exact Nat.le_refl _
    · have h1 := (row_block oX hk).1
      omega
  have hX2 := hide hX
  have HR2 := hide hr2
  have HL := hide hL; have HN := hide hl; have HSZ := hide hsz
  have HBX := hide bX; have HLX := hide lX; have HCX := hide cX
  have HW1 := hide hW1
  have zW : X.heap.size = W2.heap.size := by rw [hX]; simp
  clear hl hL hsz b1 r1 hr2 ho2 hb2 r2 b2 bX rX oX lX hX cX zW
  rw [hd] at c1 f1 c2d f2 hX2 HCX
  rw [hd] at z1
  go_enter Tryz.func124, Tryz.ntmps124
  go_upto_region 3 with (rw [← unhide HW1]; at_builtin; refine wpList_append_run rfl _ _ 55 rfl _ _ _ _ rfl rfl (unhide HR2) ?_)
  rw [← unhide hX2]
  rw [← hd] at HCX ⊢
  clear hX2 HW1 HR2 c1 f1 c2d f2 z1 hW1 hd
  by_cases hbig : n ≤ 100
  · have h100 : ¬ (100 : Int) < (n : Int) := by omega
    go_wp2_with fail
    go_loopw [5] (fun v5 wr => ∃ i : Nat, i ≤ n ∧ v5 = .int .i64 i ∧ Hid (Below X.heap.size X wr) ∧ Hid (∀ j, j < i → rokAt l j)) (fun v5 _ => n - (intOf' v5).toNat)
    case atStart => exact ⟨0, Nat.zero_le _, rfl, Below.refl _ _, fun j hj => by omega⟩
    case round =>
      obtain ⟨i, hi, rfl, hbw, hok⟩ := hrel
      obtain ⟨w7, hw7⟩ : ∃ w7, w7 = wr := ⟨_, rfl⟩
      rw [← hw7] at hbw ⊢
      clear hw7
      have hbW7 := (unhide HBX).trans ((unhide hbw).mono (unhide HBX).size)
      by_cases hlt : i < n
      · have hil : i < l.length := by rw [unhide HN]; exact hlt
        obtain ⟨b, off, hp, hbl, hr⟩ := (unhide HL).2 i hil
        subst hp
        have hld := run_ld41 (w := w7) (b := b) (o := off + i * 4) (a := l[i]) (fun j v hv => (hbW7.cell (p := ⟨b, off + i * 4 + j, none⟩) hbl).trans (hr j v hv))
        have HC0 : Hid (∀ (k : Nat) (hk : k < l.length) (Y : World), Below w7.heap.size w7 Y → Y.cell? ⟨b, off + k * 4, none⟩ = some (.string (txN l[k].nm))) := fun k hk Y hY => (acc_cells4 (unhide HL) hk (hbW7.trans (hY.mono hbW7.size))).1
        have cdw := ((unhide hbw).cell (p := ⟨d, 0, none⟩) (World.block_lt_of_cell? _ _ (unhide HCX))).trans (unhide HCX)
        have dF := hide (rfits_any cdw ((unhide HLX).below (unhide hbw)) (unhide HN) (by omega) l[i] (unhide HSZ _ (List.getElem_mem hil)))
        have HOKI : Hid (rokAt l i ↔ rfitB l l[i] = true ∧ (0 < i → (l[i - 1]'(by omega)).nm < l[i].nm)) := ⟨fun ⟨_, h⟩ => h, fun h => ⟨hil, h⟩⟩
        have HNG : Hid (¬ rokAt l i → ¬ Good l) := fun h hG => h ((rok_good hG.len).2 hG i hil)
        have c0n := fun Y hY => unhide HC0 i hil Y hY
        have HC1 := hide c0n
        obtain ⟨a, ha⟩ : ∃ a, a = l[i] := ⟨_, rfl⟩
        rw [← ha] at hld dF HOKI HC1
        obtain ⟨F, hF⟩ : ∃ F, F = rfitB l a := ⟨_, rfl⟩
        rw [← hF] at dF HOKI
        unfold acV at hld dF
        have hwi : IntKind.i64.wrap ((i : Int) + 1) = (i : Int) + 1 := wrapI (by omega) (by omega)
        have HST : Hid (rokAt l i → ∀ j, j < i + 1 → rokAt l j) := fun h j hj => by
          by_cases e : j = i
          · subst e; exact h
          · exact unhide hok j (by omega)
        obtain ⟨TA, hTA⟩ : ∃ TA, TA = txN a.nm := ⟨_, rfl⟩
        rw [← hTA] at hld dF
        have HTA := hide hTA
        clear hF ha hr c0n hbl hTA hbW7 hpc
        go_upto_region 9 with (go_at_call 191; with_reducible refine (unhide dF).mono ?_; rintro e Y ⟨rfl, hb⟩; have BY := hide hb; clear hb)
        have BXY : Hid (∀ m : Nat, Below X.heap.size X (Y.drewN m)) := fun m => below_drewN ((unhide hbw).trans ((unhide BY).mono (unhide hbw).size)) m
        have BWY : Hid (∀ m : Nat, Below W.heap.size W (Y.drewN m)) := fun m => (unhide HBX).trans ((unhide BXY m).mono (unhide HBX).size)
        clear hld dF cdw
        cases F with
        | false =>
          have hng := unhide HNG (fun h => by have h1 := (unhide HOKI).1 h; exact absurd h1.1 (by decide))
          have HNG2 := hide hng
          clear hng HNG HST
          as_aux_lemma =>
            go_wp2_with fail
            go_quiet (fail)
            go_wp2_with fail
            go_ret2
            exact ⟨.inr ⟨unhide HNG2, rfl⟩, unhide BWY _⟩
        | true =>
          by_cases hi0 : i = 0
          · subst hi0
            have HS2 := hide (unhide HST ((unhide HOKI).2 ⟨rfl, fun h => absurd h (by decide)⟩))
            clear HST HNG
            as_aux_lemma =>
              go_wp2_with fail
              go_quiet (fail)
              go_wp2_with fail
              refine ⟨⟨0 + 1, by omega, rfl, unhide BXY _, unhide HS2⟩, ?_⟩
              show n - ((0 : Int) + 1).toNat < n - ((0 : Int)).toNat
              omega
          · have hpos : (0 : Int) < (i : Int) := by omega
            have hd1 : decide ((0 : Int) < (i : Int)) = true := decide_eq_true hpos
            have hposN : 0 < i := by omega
            have hw1 : IntKind.i64.wrap ((i : Int) - 1) = ((i - 1 : Nat) : Int) := by rw [wrapI (by omega) (by omega)]; omega
            have hk1 : i - 1 < n := by omega
            obtain ⟨q, hq⟩ : ∃ q, q = (l[i - 1]'(by omega)).nm := ⟨_, rfl⟩
            have y0 := unhide HC1 Y (unhide BY)
            have y1 := unhide HC0 (i - 1) (by omega) Y (unhide BY)
            rw [← hq] at y1 HOKI
            have bl1 : Op.bytesLess (txN a.nm).toList (txN q).toList = decide (a.nm < q) := by rw [Go.Proofs.bytesLess_eq, ByteArray.toList_eq, ByteArray.toList_eq, txN_list, txN_list]
            clear hq
            by_cases hris : q < a.nm
            · have z0 : ¬ a.nm < q := fun h => slt_irrefl _ (slt_trans h hris)
              have z3 : ¬ (txN a.nm).toList = (txN q).toList := by
                rw [ByteArray.toList_eq, ByteArray.toList_eq, txN_list, txN_list]
                intro h
                rw [h] at hris
                exact slt_irrefl _ hris
              have z2 : ((txN a.nm).toList == (txN q).toList) = false := beq_eq_false_iff_ne.2 z3
              rw [decide_eq_false z0] at bl1
              have HS2 := hide (unhide HST ((unhide HOKI).2 ⟨rfl, fun _ => hris⟩))
              obtain ⟨T, hT⟩ : ∃ T, T = txN a.nm := ⟨_, rfl⟩
              obtain ⟨Q, hQ⟩ : ∃ Q, Q = txN q := ⟨_, rfl⟩
              rw [← hT] at y0 bl1 z2 z3
              rw [← hQ] at y1 bl1 z2 z3
              clear HST HNG z0 hris hT hQ
              as_aux_lemma =>
                go_wp2_with fail
                go_quiet (fail)
                go_wp2_with fail
                refine ⟨⟨i + 1, by omega, by simp, unhide BXY _, unhide HS2⟩, ?_⟩
                show n - ((i : Int) + 1).toNat < n - ((i : Int)).toNat
                omega
            · have HNG2 := hide (unhide HNG (fun h => hris (((unhide HOKI).1 h).2 hposN)))
              by_cases haq : a.nm < q
              · rw [decide_eq_true haq] at bl1
                obtain ⟨T, hT⟩ : ∃ T, T = txN a.nm := ⟨_, rfl⟩
                obtain ⟨Q, hQ⟩ : ∃ Q, Q = txN q := ⟨_, rfl⟩
                rw [← hT] at y0 bl1
                rw [← hQ] at y1 bl1
                clear HST HNG hris haq hT hQ
                as_aux_lemma =>
                  go_wp2_with fail
                  go_quiet (fail)
                  go_wp2_with fail
                  go_ret2
                  exact ⟨.inr ⟨unhide HNG2, rfl⟩, unhide BWY _⟩
              · have heq : a.nm = q := slt_tri haq hris
                rw [decide_eq_false haq, ← heq] at bl1
                rw [← heq] at y1
                obtain ⟨T, hT⟩ : ∃ T, T = txN a.nm := ⟨_, rfl⟩
                rw [← hT] at y0 y1 bl1
                clear HST HNG hris haq hT heq
                as_aux_lemma =>
                  go_wp2_with fail
                  go_quiet (fail)
                  go_wp2_with fail
                  go_ret2
                  exact ⟨.inr ⟨unhide HNG2, rfl⟩, unhide BWY _⟩
      · have hin : i = n := by omega
        have hG : Good l := (rok_good (by rw [unhide HN]; exact hbig)).1 (fun j hj => unhide hok j (by rw [hin, ← unhide HN]; exact hj))
        have HF : Hid (RFromOut W l (.returned (.tuple #[ptr d, .int .i64 0])) w7) := ⟨.inl ⟨hG, d, _, rfl, unhide HRC hG _ (unhide hbw), unhide HNS⟩, hbW7⟩
        subst hin
        clear hG hbW7
        as_aux_lemma =>
          go_wp2_with fail
          go_ret2
          exact unhide HF
  · have h100 : (100 : Int) < (n : Int) := by omega
    have HNG : Hid (¬ Good l) := fun hG => by have := hG.len; have := unhide HN; omega
    as_aux_lemma =>
      go_wp2_with fail
      go_ret2
      exact ⟨.inr ⟨unhide HNG, rfl⟩, unhide HBX⟩
end
end Go.Proofs.YtcafhmlpmbkhkaaGreatDoor.Ch
