import Derived.Test.YtdeibifjiefapaaGreatDoorW06
/- chart: seek (31). -/
namespace Go.Proofs.YtdeibifjiefapaaGreatDoor
open Go Go.Shelf Go.ChangeShapes Go.WideShapes Go.ChangeAt Go.RowKit Go.Maps
set_option linter.unusedVariables false
attribute [local go_sem] Oper.semAt_some
theorem OwnL.and {β : Type} {B : Nat} {I J : β → World → Prop} (h : OwnL B I) (k : OwnL B J) : OwnL B (fun s W => I s W ∧ J s W) := fun s W W' row hs hg hr => ⟨h s W W' row hs.1 hg hr, k s W W' row hs.2 hg hr⟩
theorem ownL_pure {β : Type} (B : Nat) (p : β → Prop) : OwnL B (fun s (_ : World) => p s) := fun _ _ _ _ hs _ _ => hs
theorem ownL_obj {β : Type} (B b : Nat) (f : β → Obj) (hf : ∀ s, lpy (f s) = false) : OwnL B (fun s W => W.heap[b]? = some (f s)) := fun s W W' row hs hg hr =>
  (hg.block b (Array.getElem?_eq_some_iff.1 hs).1 (fun e => by
    obtain ⟨_, o, ho, hl⟩ := hr b e.symm
    rw [hs] at ho
    injection ho with ho
    rw [← ho, hf s] at hl
    cases hl)).trans hs
theorem ownL_boxed {β : Type} (B b : Nat) (t : TypeId) (f : β → Value) : OwnL B (fun s W => Boxed W b t (f s)) := ownL_obj B b (fun s => .cells #[f s] t) (fun _ => rfl)
theorem ownL_below {β : Type} {B n : Nat} {w : World} (hw : n ≤ w.heap.size) (hn : n ≤ B) : OwnL B (fun (_ : β) W => Below n w W) := fun s W W' row hs hg hr =>
  hs.grown hg (Nat.le_trans hw hs.size) (fun k e => Nat.le_trans hn (hr k e).1)
/-- the k-th name of a way from the top on -/
def stepN (p : List Nm) (k : Nat) : Nm := if k = 0 then [] else p.getD (p.length - k) []
theorem stepN_zero (p : List Nm) : stepN p 0 = [] := rfl
theorem stepN_succ {p : List Nm} {k : Nat} (hk : k < p.length) : stepN p (k + 1) = p[p.length - 1 - k] := by
  rw [stepN, if_neg (by omega), List.getD_eq_getElem?_getD, List.getElem?_eq_getElem (by omega)]
  simp only [Option.getD_some]
  congr 1
  omega
theorem path_anc {x : Nm} (h : nameL x = true) : pathL x ++ [[]] = x :: anc x := by rw [pathL, if_pos h]; rfl
theorem step_par {x : Nm} (h : nameL x = true) {k : Nat} (hk : k < (pathL x).length) : par (stepN (pathL x) (k + 1)) = stepN (pathL x) k ∧ nameL (stepN (pathL x) (k + 1)) = true ∧ stepN (pathL x) (k + 1) ∈ x :: anc x := by
  rw [stepN_succ hk]
  obtain ⟨p, hp⟩ : ∃ p, p = pathL x := ⟨_, rfl⟩
  have ha := path_anc h
  have hk' : k < p.length := by rw [hp]; exact hk
  have hc : ∀ j (hj : j < p.length), (x :: anc x)[j]? = some p[j] := fun j hj => by
    rw [← ha, ← hp, List.getElem?_append_left hj, List.getElem?_eq_getElem hj]
  have hne : ∀ j (hj : j < p.length), p[j] ≠ [] ∧ nameL p[j] = true := fun j hj => by
    have h1 := hc j hj
    cases j with
    | zero =>
      simp at h1
      rw [← h1]
      exact ⟨name_ne h, h⟩
    | succ j =>
      have hlen : (x :: anc x).length = p.length + 1 := by rw [← ha, ← hp]; simp
      have h2 : (anc x)[j]? = some p[j + 1] := by simpa using h1
      have hz : p[j + 1] ≠ [] := fun e => by
        have hl : (anc x)[p.length - 1]? = some [] := by
          have : (x :: anc x)[p.length]? = some [] := by rw [← ha, ← hp, List.getElem?_append_right (Nat.le_refl _)]; simp
          rw [show p.length = (p.length - 1) + 1 by omega] at this
          simpa using this
        have := anc_down _ x (Nat.le_refl _) h j (p.length - 1) _ _ h2 hl (by omega)
        rw [e] at this
        simp at this
      exact ⟨hz, (anc_next _ x (Nat.le_refl _) h j _ h2 hz).2⟩
  have key : ∀ j (hj : j < p.length), (x :: anc x)[j + 1]? = some (par p[j]) := fun j hj => by
    have h1 := hc j hj
    cases j with
    | zero => simp at h1; rw [← h1]; simpa using anc_head x
    | succ j => simpa using (anc_next _ x (Nat.le_refl _) h j _ (by simpa using h1) (hne _ hj).1).1
  have e1 : (pathL x)[(pathL x).length - 1 - k]'(by omega) = p[p.length - 1 - k]'(by omega) := by simp only [hp]
  rw [e1]
  refine ⟨?_, (hne _ _).2, List.mem_of_getElem? (hc _ _)⟩
  have h2 := key (p.length - 1 - k) (by omega)
  rw [show p.length - 1 - k + 1 = p.length - k by omega, ← ha, ← hp] at h2
  cases k with
  | zero =>
    rw [Nat.sub_zero, List.getElem?_append_right (Nat.le_refl _)] at h2
    simp at h2
    rw [stepN_zero]
    exact h2
  | succ k =>
    rw [List.getElem?_append_left (by omega), List.getElem?_eq_getElem (by omega)] at h2
    injection h2 with h2
    rw [← h2, stepN, if_neg (by omega), ← hp, List.getD_eq_getElem?_getD, List.getElem?_eq_getElem (by omega)]
    rfl
theorem step_last {x : Nm} (h : nameL x = true) : stepN (pathL x) (pathL x).length = x := by
  have : 0 < (pathL x).length := by rw [pathL, if_pos h]; simp
  rw [stepN, if_neg (by omega), Nat.sub_self, pathL, if_pos h]
  rfl
theorem pos_get {K : List Nm} (hK : K.Pairwise (· < ·)) {x : Nm} (hx : x ∈ K) : ∃ h : posK K x < K.length, K[posK K x] = x := by
  obtain ⟨i, hi, rfl⟩ := List.getElem_of_mem hx
  have := posK_is (K := K) (x := K[i]) (i := i) (by omega) (fun t h ht => List.pairwise_iff_getElem.1 hK t i h hi ht) (fun t h ht hlt => by
    by_cases e : t = i
    · subst e; exact slt_irrefl _ hlt
    · exact slt_irrefl _ (slt_trans hlt (List.pairwise_iff_getElem.1 hK i t hi h (by omega))))
  exact ⟨by omega, by simp only [this]⟩
/-- what seek answers -/
def seekV (g : Gh) (L : List Ac) (x : Nm) : Value := open Classical in if (∃ a ∈ L, a.nm = x) then ptr (g.nd x) else .pointer none
theorem result31 {tmps : Array Value} {w : World} {a : Addr} {p : Option Addr} (hp : tmps[4]?.getD undef = .pointer (some a)) (hc : w.cell? a = some (.pointer p)) : (results Tryz.f83 tmps).run Tryz.prog w = .ok (.pointer p) w := by
  simp [results, hp, asAddr, go_sem, hc]
theorem keepG_set63 {W : World} {b : Nat} {v u : Value} (h : Boxed W b 98 v) : KeepsG gdB W (W.setCell ⟨b, 0, none⟩ u) := ⟨by simp, fun k o ho hg => by
  refine (Below.heap_setCell _ _ _ _ (fun e => ?_)).trans ho
  have e' : k = b := e
  subst e'
  rw [show W.heap[k]? = _ from h] at ho
  injection ho with ho
  subst ho
  revert hg
  simp [gdB]⟩
theorem row_open {w : World} {base : Nat} {v : Value} {l : List Nm} (h : w.ownsRow base 9 1 v l.length (scells (fOf l) l.length)) (hm : 0 < l.length) : ∃ q c f, v = .slice (some ⟨q, 0, none⟩) l.length c ∧ base ≤ q ∧ w.heap[q]? = some (.cells f 9) ∧ ∀ j (hj : j < l.length), f[j]? = some (.string (txN l[j])) := by
  obtain ⟨_, ⟨_, h0⟩ | ⟨q, c, f, e1, h1, h2, h3, h4, h5, h6⟩⟩ := h
  · omega
  · refine ⟨q, c, f, e1, h1, h2, fun j hj => ?_⟩
    have e2 : (scells (fOf l) l.length)[j]? = some (.string (txN l[j])) := by
      rw [scells_get _ _ _ hj, fOf, List.getD_eq_getElem?_getD, List.getElem?_eq_getElem hj]
      rfl
    rw [← h6, List.getElem?_take_of_lt (by omega)] at e2
    simpa using e2

/-- where seek stands between two steps -/
structure Sk (W : World) (L : List Ac) (g : Gh) (t : Nm) (r b : Nat) (k : Nat) (W' : World) : Prop where
  box : Boxed W' b 98 (ptr (g.nd (stepN (pathL t) k)))
  res : Boxed W' r 98 (.pointer none)
  isn : isN L (stepN (pathL t) k)
  bel : Below W.heap.size W W'
theorem Sk.own {W : World} {L : List Ac} {g : Gh} {t : Nm} {r b : Nat} {B : Nat} (hB : W.heap.size ≤ B) : OwnL B (fun (pre : List (Nat × Nm)) W' => Sk W L g t r b pre.length W') := fun s X Y row hs hg hr =>
  ⟨ownL_boxed B b 98 (fun (_ : Unit) => ptr (g.nd (stepN (pathL t) s.length))) () X Y row hs.box hg hr, ownL_boxed B r 98 (fun (_ : Unit) => .pointer none) () X Y row hs.res hg hr, hs.isn, ownL_below (Nat.le_refl _) hB () X Y row hs.bel hg hr⟩
structure Sx (W : World) (L : List Ac) (t : Nm) (r : Nat) (W' : World) : Prop where
  res : Boxed W' r 98 (.pointer none)
  non : ¬ ∃ a ∈ L, a.nm = t
  bel : Below W.heap.size W W'
theorem Sx.own {W : World} {L : List Ac} {t : Nm} {r : Nat} {B : Nat} (hB : W.heap.size ≤ B) : OwnL B (fun (pre : List (Nat × Nm)) W' => Sx W L t r W') := fun s X Y row hs hg hr =>
  ⟨ownL_boxed B r 98 (fun (_ : Unit) => .pointer none) () X Y row hs.res hg hr, hs.non, ownL_below (Nat.le_refl _) hB () X Y row hs.bel hg hr⟩
theorem back_pre {l : List Nm} {pre : List (Nat × Nm)} {x : Nat × Nm} (h : pre ++ [x] <+: backL l) : pre.length < l.length ∧ x = (l.length - 1 - pre.length, stepN l (pre.length + 1)) := by
  have hl := h.length_le
  rw [backL_len] at hl
  simp at hl
  refine ⟨by omega, ?_⟩
  have h1 : (backL l)[pre.length]? = some x := by
    obtain ⟨t, ht⟩ := h
    rw [← ht]
    simp
  rw [List.getElem?_eq_getElem (by rw [backL_len]; omega)] at h1
  injection h1 with h1
  rw [← h1, backL_get l _ (by omega), stepN_succ (by omega), List.getD_eq_getElem?_getD, List.getElem?_eq_getElem (by omega)]
  rfl
set_option maxRecDepth 100000 in
set_option maxHeartbeats 4000000 in
theorem seek_any {W : World} {d : Nat} {S : Nat → Prop} {L : List Ac} {g : Gh} (h : ChAt W d S L g) (hG : Good L) (hS : ∀ k, S k → k < W.heap.size) (t : ByteArray) (ht : t.size < 4611686018427387904) :
    Calls Tryz.prog 83 #[ptr d, .string t] W fun e w' => e = .returned (seekV g L t.data.toList) ∧ Below W.heap.size W w' := by
  have dG := hide (good_any t ht)
  have dP := hide (path_any t ht)
  have HC := hide h; have HG := hide hG; have HS := hide hS
  have htop := h.top
  clear h hG hS
  by_cases hn : nameL t.data.toList = true
  · rw [hn] at dG
    have hm : 0 < (pathL t.data.toList).length := by rw [pathL, if_pos hn]; simp
    have HM := hide hm; have HN := hide hn
    clear hn hm
    refine (callsIn_wide (n := 4)).1 ?_
    refine callsIn_of_wp_marks Tryz.func83 rfl trivial ?_ rfl
    simp only [Tryz.ntmps83, List.size_toArray, List.length_cons, List.length_nil, Nat.reduceAdd, Nat.reduceSub, Array.replicate_succ, Array.replicate_zero, List.push_toArray, List.append_toArray, List.nil_append, List.cons_append]
    gi_wp2_with fail
    refine ⟨trivial, (callsIn_wide.2 (unhide dG _)).mono ?_⟩
    rintro e w1 ⟨rfl, hb1⟩
    have r1 : Hid (Boxed w1 W.heap.size 98 (.pointer none)) := (hb1.block W.heap.size (by simp)).trans (Boxed.new W 98 (.pointer none))
    have B1 : Hid (Below W.heap.size W w1) := ((Below.refl _ W).alloc (Nat.le_refl _) _).trans (hb1.mono (by simp))
    have z1 : Hid (W.heap.size + 1 ≤ w1.heap.size) := by have := hb1.size; simp at this; exact this
    clear hb1
    gi_wp2_with fail
    refine ⟨trivial, (callsIn_wide.2 (unhide dP _)).mono ?_⟩
    rintro e w3 ⟨v, rfl, hrow, _, hb3⟩
    obtain ⟨q, cq, f, ev, hq1, hq2, hq3⟩ := row_open hrow (unhide HM)
    subst ev
    obtain ⟨m, hme⟩ : ∃ m, m = (pathL t.data.toList).length := ⟨_, rfl⟩
    obtain ⟨b, hbe⟩ : ∃ b, b = w1.heap.size := ⟨_, rfl⟩
    have n3 : Boxed w3 b 98 (ptr d) := by rw [hbe]; exact (hb3.block _ (by simp)).trans (Boxed.new w1 98 (ptr d))
    have r3 : Boxed w3 W.heap.size 98 (.pointer none) := (hb3.block _ (by have := unhide z1; simp; omega)).trans ((unhide r1).alloc _)
    have B3 : Below W.heap.size W w3 := ((unhide B1).alloc (by have := unhide z1; omega) _).trans (hb3.mono (by have := unhide z1; simp; omega))
    have z3 : b + 1 ≤ w3.heap.size := by have := hb3.size; simp at this; omega
    rw [← hme]
    have dB := hide (back_any (some ⟨q, 0, none⟩) m cq w3)
    have Q2 := hide hq2; have Q3 := hide hq3; have N3 := hide n3; have R3 := hide r3; have BB := hide B3; have Z3 := hide z3
    have HB := hide hbe; have HME := hide hme
    rw [← hbe]
    clear hrow hb3 hq2 hq3 n3 r3 B3 z3 hq1 hbe hme
    gi_wp2_with fail
    refine ⟨trivial, (callsIn_wide.2 (unhide dB)).mono ?_⟩
    rintro e w4 ⟨rfl, hw4⟩
    have hm6 : m ≤ 6 := by rw [unhide HME]; exact path_len _
    have GV : Hid (GivesS gdB Tryz.prog 218 #[ptr w3.heap.size] encB (backL (pathL t.data.toList)) w4) := by
      rw [hw4]
      refine back_gives _ (by have := unhide HME; omega) w3.heap.size q cq f _ ?_ ?_ (unhide Q3)
      · rw [← unhide HME]; exact World.alloc_heap_new w3 _
      · exact (Below.heap_alloc _ _ _ (Array.getElem?_eq_some_iff.1 (unhide Q2)).1).trans (unhide Q2)
    have S4 : Hid (Sk W L g t.data.toList W.heap.size b 0 w4) := by
      rw [hw4]
      refine ⟨?_, (unhide R3).alloc _, .inl rfl, (unhide BB).alloc (unhide BB).size _⟩
      rw [stepN_zero, htop]
      exact (unhide N3).alloc _
    have z4 : Hid (W.heap.size + 1 ≤ w4.heap.size ∧ W.heap.size + 1 ≤ b) := by
      rw [hw4]
      have h1 := unhide Z3; have h2 := unhide z1; have h3 := unhide HB
      constructor
      · simp; omega
      · omega
    clear hw4
    gi_wp2_with fail
    refine range_st (α := Nat × Nm) gdB gdB_lpy (by omega) (gf := 218) (lb := #[ptr w3.heap.size]) rfl enters69 (unhide GV) (fun _ => rfl)
      (fun pre W' => Sk W L g t.data.toList W.heap.size b pre.length W') (fun pre W' => Sx W L t.data.toList W.heap.size W') (Sk.own (by have := (unhide S4).bel.size; omega)) (Sx.own (by have := (unhide S4).bel.size; omega)) (unhide S4)
      (fun x => { tmps := #[ptr d, .string t, undef, undef, ptr W.heap.size, ptr b, undef, .string (txN x.2), undef, undef, .string t, .bool true, .bool false, ptr d, ptr d, ptr d, .string t, .slice (some ⟨q, 0, none⟩) m cq, .func (.func 218) #[] #[ptr w3.heap.size], .int .i64 x.1, .string (txN x.2), undef, undef, undef, undef, undef, undef, undef, undef, undef, undef, undef, undef, undef, undef, undef, undef], defers := [] }) ?assign ?body ?done ?stop
    case assign =>
      intro l x W' K hK
      unfold encB
      gi_wp2
      exact hK
    case body =>
      rintro l pre x X hsk hpx
      obtain ⟨hk, rfl⟩ := back_pre hpx
      obtain ⟨k, hke⟩ : ∃ k, k = pre.length := ⟨_, rfl⟩
      rw [← hke] at hsk hk ⊢
      obtain ⟨hpar, hnm, hch⟩ := step_par (unhide HN) hk
      obtain ⟨s, hs⟩ : ∃ s, s = stepN (pathL t.data.toList) (k + 1) := ⟨_, rfl⟩
      obtain ⟨x, hx⟩ : ∃ x, x = stepN (pathL t.data.toList) k := ⟨_, rfl⟩
      rw [← hs] at hpar hnm hch ⊢
      rw [← hx] at hpar
      have hisn := hsk.isn
      rw [← hx] at hisn
      have hch4 : ChAt X d S L g := (unhide HC).keep (fun k hk => hsk.bel.block k (unhide HS k hk))
      have dPl := hide (place_any hch4 (unhide HG) hisn (txN s))
      rw [txN_list] at dPl
      have cb := hsk.box.cell
      rw [← hx] at cb
      have cr := hsk.res.cell
      have fr := hsk.res.frozen
      have fb := hsk.box.frozen
      have hmem : s ∈ kids L x ↔ ∃ a ∈ L, a.nm = s := by rw [mem_kids]; exact ⟨fun h => h.1, fun h => ⟨h, hpar⟩⟩
      have HSK := hide hsk
      have hlen : (pre ++ [((pathL t.data.toList).length - 1 - k, s)]).length = k + 1 := by simp [← hke]
      have HL := hide hlen
      by_cases hin : s ∈ kids L x
      · have hdec : decide (s ∈ kids L x) = true := decide_eq_true hin
        rw [hdec] at dPl
        rcases hch4.rowK hisn with h0 | ⟨q2, e2, hr2⟩
        · rw [h0] at hin; cases hin
        obtain ⟨hpl, hpe⟩ := pos_get ((unhide HG).kids_rise x) hin
        have c4 := hch4.kids4 hisn
        rw [e2] at c4
        have c5 := hr2.row _ hpl
        rw [hpe] at c5
        obtain ⟨po, hpo⟩ : ∃ po, po = posK (kids L x) s := ⟨_, rfl⟩
        rw [← hpo] at c5 hpl dPl
        obtain ⟨kn, hkn⟩ : ∃ kn, kn = (kids L x).length := ⟨_, rfl⟩
        rw [← hkn] at c4 hpl
        obtain ⟨nx, hnx⟩ : ∃ nx, nx = g.nd x := ⟨_, rfl⟩
        rw [← hnx] at c4 dPl cb
        obtain ⟨ns, hns⟩ : ∃ ns, ns = g.nd s := ⟨_, rfl⟩
        rw [← hns] at c5
        have HNS := hide hns; have HIN := hide (hmem.1 hin); have HSS := hide hs
        clear hpo hkn hnx hns hs hx hin hdec hr2 hch4 hmem hisn hpar hnm hch hsk hlen e2 hpx hpe hke
        gi_wp2_with fail
        refine ⟨trivial, (callsIn_wide.2 (unhide dPl)).mono ?_⟩
        rintro e X2 ⟨rfl, hX2⟩
        subst hX2
        gi_wp2
        refine .inl ⟨rfl, keepG_set63 (unhide HSK).box, ?_⟩
        show Sk W L g t.data.toList W.heap.size b (pre ++ [_]).length _
        rw [unhide HL]
        refine ⟨?_, (unhide HSK).res.other (by have := unhide z4; omega) _, ?_, (unhide HSK).bel.setCell (by have := unhide z4; show W.heap.size ≤ b; omega) _⟩
        · have h1 := (unhide HSK).box.set (ptr ns)
          rw [← unhide HSS, ← unhide HNS]
          exact h1
        · rw [← unhide HSS]; exact .inr (unhide HIN)
      · have hdec : decide (s ∈ kids L x) = false := decide_eq_false hin
        rw [hdec] at dPl
        obtain ⟨nx, hnx⟩ : ∃ nx, nx = g.nd x := ⟨_, rfl⟩
        rw [← hnx] at dPl cb
        have hno : Hid (¬ ∃ a ∈ L, a.nm = t.data.toList) := fun hex => hin (hmem.2 (by
          rcases List.mem_cons.1 hch with e | h
          · rw [e]; exact hex
          · exact (unhide HG).above _ _ (Nat.le_refl _) hex s h (name_ne hnm)))
        clear hnx hs hx hin hdec hch4 hmem hisn hpar hnm hch hsk hlen hpx hke
        gi_wp2_with fail
        refine ⟨trivial, (callsIn_wide.2 (unhide dPl)).mono ?_⟩
        rintro e X2 ⟨rfl, hX2⟩
        subst hX2
        gi_wp2
        exact .inr ⟨rfl, (keepG_set63 (unhide HSK).res).from _, ⟨(unhide HSK).res.set _, unhide hno, (unhide HSK).bel.setCell (Nat.le_refl _) _⟩⟩
    case done =>
      rintro D X hD hsk hK
      have hlen : (backL (pathL t.data.toList)).length = (pathL t.data.toList).length := backL_len _
      rw [hlen] at hsk
      have cb := hsk.box.cell
      rw [step_last (unhide HN)] at cb
      have hin := hsk.isn
      rw [step_last (unhide HN)] at hin
      have hval : seekV g L t.data.toList = ptr (g.nd t.data.toList) := by
        rcases hin with e | hin
        · exact absurd e (name_ne (unhide HN))
        · rw [seekV, if_pos hin]
      have HV := hide hval
      have cr := hsk.res.cell
      have fr := hsk.res.frozen
      obtain ⟨ns, hns⟩ : ∃ ns, ns = g.nd t.data.toList := ⟨_, rfl⟩
      rw [← hns] at cb
      have HNS := hide hns
      have HSK := hide hsk; have HK := hide hK
      have hz4 := unhide z4
      have hDb : Hid (W.heap.size < D) := by show W.heap.size < D; omega
      clear hns hval hin hlen hK hsk
      gi_wp2
      have hK2 : (X.setCell ⟨W.heap.size, 0, none⟩ (ptr ns)).heap[D]? = some (.deferred (some [])) := (Below.heap_setCell _ _ _ _ (by have := unhide hDb; show D ≠ W.heap.size; omega)).trans (unhide HK)
      refine ⟨by simp, .inl ⟨_, _, rfl, run_takeDeferred hK2, ?_⟩⟩
      refine ⟨_, result31 (a := ⟨W.heap.size, 0, none⟩) (p := some ⟨ns, 0, none⟩) rfl ?_, by rw [unhide HV, ← unhide HNS], ((unhide HSK).bel.setCell (Nat.le_refl _) _).trans (belowK_b (w := W) (Nat.le_refl _) _ D _ _ (by have := unhide hDb; omega) hK2 rfl rfl)⟩
      exact (cell_kept (World.cell?_setCell_same _ _ _ cr) (grownBy_putObj' _ _ _) (fun r e => by cases e; exact ⟨_, hK2, rfl⟩))
    case stop =>
      rintro D pre X hD hp hsx hK
      have cr := hsx.res.cell
      have hval : seekV g L t.data.toList = .pointer none := by rw [seekV, if_neg hsx.non]
      have HV := hide hval
      have HSX := hide hsx; have HK := hide hK
      clear hval hsx hK
      gi_wp2
      refine ⟨by simp, .inl ⟨_, _, rfl, run_takeDeferred (unhide HK), ?_⟩⟩
      refine ⟨_, result31 (a := ⟨W.heap.size, 0, none⟩) (p := none) rfl ?_, by rw [unhide HV], (unhide HSX).bel.trans (belowK_b (w := W) (Nat.le_refl _) _ D _ _ (by have := unhide z4; omega) (unhide HK) rfl rfl)⟩
      exact (cell_kept cr (grownBy_putObj' _ _ _) (fun r e => by cases e; exact ⟨_, unhide HK, rfl⟩))
  · have hf : nameL t.data.toList = false := by simpa using hn
    rw [hf] at dG
    have hval : seekV g L t.data.toList = .pointer none := by
      rw [seekV, if_neg]
      rintro ⟨a, ha, e⟩
      have := (unhide HG).name a ha
      rw [e, hf] at this
      cases this
    rw [hval]
    clear hf hn hval
    refine (callsIn_wide (n := 4)).1 ?_
    refine callsIn_of_wp_marks Tryz.func83 rfl trivial ?_ rfl
    simp only [Tryz.ntmps83, List.size_toArray, List.length_cons, List.length_nil, Nat.reduceAdd, Nat.reduceSub, Array.replicate_succ, Array.replicate_zero, List.push_toArray, List.append_toArray, List.nil_append, List.cons_append]
    gi_wp2_with fail
    refine ⟨trivial, (callsIn_wide.2 (unhide dG _)).mono ?_⟩
    rintro e w1 ⟨rfl, hb1⟩
    have r1 : Boxed w1 W.heap.size 98 (.pointer none) := (hb1.block W.heap.size (by simp)).trans (Boxed.new W 98 (.pointer none))
    have B1 : Hid (Below W.heap.size W w1) := ((Below.refl _ W).alloc (Nat.le_refl _) _).trans (hb1.mono (by simp))
    have cr := r1.cell
    have fr := r1.frozen
    clear hb1 r1
    gi_wp2
    refine ⟨_, result31 (a := ⟨W.heap.size, 0, none⟩) (p := none) rfl (World.cell?_setCell_same _ _ _ cr), rfl, (unhide B1).setCell (Nat.le_refl _) _⟩
end Go.Proofs.YtdeibifjiefapaaGreatDoor
