import Derived.Test.YtdeibifjiefapaaGreatDoorW08
/- chart: count (34), Close (16). -/
namespace Go.Proofs.YtdeibifjiefapaaGreatDoor
open Go Go.Shelf Go.ChangeShapes Go.WideShapes Go.ChangeAt Go.RowKit Go.Maps
set_option linter.unusedVariables false
attribute [local go_sem] Oper.semAt_some
theorem keepG_box {gd : Obj → Bool} {W : World} {b : Nat} {t : TypeId} {v u : Value} (h : Boxed W b t v) (ht : gd (.cells #[v] t) = false) : KeepsG gd W (W.setCell ⟨b, 0, none⟩ u) := ⟨by simp, fun k o ho hg => by
  refine (Below.heap_setCell _ _ _ _ (fun e => ?_)).trans ho
  have e' : k = b := e
  subst e'
  rw [show W.heap[k]? = _ from h] at ho
  injection ho with ho
  subst ho
  rw [ht] at hg
  cases hg⟩
/-- what a call leaves alone -/
structure Fr (S : Nat → Prop) (W W' : World) : Prop where
  os : W'.os = W.os
  tape : W'.tape = W.tape
  output : W'.output = W.output
  size : W.heap.size ≤ W'.heap.size
  block : ∀ k, k < W.heap.size → ¬ S k → W'.heap[k]? = W.heap[k]?
theorem Fr.below {S : Nat → Prop} {W W' : World} (h : Below W.heap.size W W') : Fr S W W' := ⟨h.os, h.tape, h.output, h.size, fun k hk _ => h.block k hk⟩
set_option maxRecDepth 100000 in
set_option maxHeartbeats 4000000 in
theorem count_any {W : World} {d : Nat} {S : Nat → Prop} {L : List Ac} {g : Gh} (h : ChAt W d S L g) (hG : Good L) : Calls Tryz.prog 84 #[ptr d] W fun e w' => e = .returned (.int .i64 (L.length : Nat)) ∧ Below W.heap.size W w' := by
  have HC := hide h; have HG := hide hG
  have hlen := desc_len hG
  have HL := hide hlen
  have h100 := hG.len
  clear h hG hlen
  refine (callsIn_wide (n := 4)).1 ?_
  refine callsIn_of_wp_marks Tryz.func84 rfl trivial ?_ rfl
  simp only [Tryz.ntmps84, List.size_toArray, List.length_cons, List.length_nil, Nat.reduceAdd, Nat.reduceSub, Array.replicate_succ, Array.replicate_zero, List.push_toArray, List.append_toArray, List.nil_append, List.cons_append]
  gi_wp2_with fail
  refine ⟨trivial, (callsIn_wide.2 (below_any d _)).mono ?_⟩
  rintro e w1 ⟨rfl, hw⟩
  have b1 : Boxed w1 W.heap.size 3 (.int .i64 (0 : Nat)) := by rw [hw]; exact (Boxed.new W 3 (.int .i64 (0 : Nat))).alloc _
  have b2 : Boxed w1 (W.heap.size + 1) 98 (ptr d) := by
    have h := Boxed.new (W.alloc (.cells #[.int .i64 0] 3)) 98 (ptr d)
    rw [World.size_alloc] at h
    rw [hw]
    exact h
  have hB : Below W.heap.size W w1 := by rw [hw]; exact ((Below.refl _ W).alloc (Nat.le_refl _) _).alloc (by simp) _
  have hz1 : w1.heap.size = W.heap.size + 1 + 1 := by rw [hw]; simp
  have hC1 : ChAt w1 d S L g := (unhide HC).keepG (KeepsG.below hB)
  have hseq := hide (below_gives (unhide HG) 6 [] (.inl rfl) (by simp [dep]) w1 (W.heap.size + 1) hC1 (by rw [hC1.top]; exact b2))
  have Hb1 := hide b1; have HB := hide hB
  rw [World.size_alloc]
  clear hw b1 b2 hB hC1
  gi_wp2_with fail
  refine range_st (α := Nm) gdT gdT_lpy (by omega) (gf := 166) (lb := #[ptr (W.heap.size + 1)]) rfl enters39 (unhide hseq) (fun _ => rfl)
    (fun pre W' => Boxed W' W.heap.size 3 (.int .i64 (pre.length : Nat)) ∧ Below W.heap.size W W') (fun _ _ => False)
    (OwnL.and (ownL_boxed _ _ 3 (fun (pre : List Nm) => .int .i64 (pre.length : Nat))) (ownL_below (Nat.le_refl _) (by omega))) (fun _ _ _ _ hs _ _ => hs.elim) ⟨unhide Hb1, unhide HB⟩
    (fun x => { tmps := #[ptr d, undef, .int .i64 0, ptr W.heap.size, ptr d, ptr d, ptr d, .func (.func 166) #[] #[ptr (W.heap.size + 1)], ptr (g.nd x), undef, undef, undef], defers := [] }) ?assign ?body ?done ?stop
  case assign =>
    intro l x W' K hK
    gi_wp2
    simpa [encN] using hK
  case body =>
    rintro l pre x X ⟨hv, hb⟩ hpx
    have hc := hv.cell
    have hf := hv.frozen
    have hl := hpx.length_le
    rw [unhide HL] at hl
    simp at hl
    have hw2 : IntKind.i64.wrap ((pre.length : Int) + 1) = (pre.length : Int) + 1 := by rw [IntKind.wrap_i64]; omega
    gi_wp2
    refine .inl ⟨rfl, keepG_box hv rfl, ?_, hb.setCell (Nat.le_refl _) _⟩
    have e1 : ((pre ++ [x]).length : Int) = (pre.length : Int) + 1 := by simp
    show Boxed _ _ 3 (.int .i64 ((pre ++ [x]).length : Int))
    rw [e1]
    exact hv.set _
  case done =>
    rintro D X hD ⟨hv, hb⟩ hK
    rw [unhide HL] at hv
    have hc := hv.cell
    gi_wp2
    refine ⟨by simp, .inl ⟨_, _, rfl, run_takeDeferred hK, ?_⟩⟩
    exact ⟨_, results_tmp rfl _ _ _, rfl, hb.trans (belowK_b (w := W) (Nat.le_refl _) X D _ _ (by omega) hK rfl rfl)⟩
  case stop => exact fun D pre W' _ _ h _ => h.elim

/-- an account closed -/
def clA (L : List Ac) (x : Nm) : List Ac := L.map fun a => if a.nm = x then { a with cl := true } else a
theorem clA_nm (a : Ac) (x : Nm) : (if a.nm = x then { a with cl := true } else a : Ac).nm = a.nm := by split <;> rfl
theorem kids_clA (L : List Ac) (x y : Nm) : kids (clA L x) y = kids L y := by
  unfold kids clA
  rw [List.filter_map, List.map_map]
  have e1 : ((fun a : Ac => decide (par a.nm = y)) ∘ fun a : Ac => if a.nm = x then { a with cl := true } else a) = fun a => decide (par a.nm = y) := funext fun a => by simp only [Function.comp, clA_nm]
  have e2 : ((fun a : Ac => a.nm) ∘ fun a : Ac => if a.nm = x then { a with cl := true } else a) = fun a => a.nm := funext fun a => by simp only [Function.comp, clA_nm]
  rw [e1, e2]
theorem mem_clA {L : List Ac} {x : Nm} {b : Ac} : b ∈ clA L x ↔ ∃ a ∈ L, b = if a.nm = x then { a with cl := true } else a := by
  rw [clA, List.mem_map]
  constructor
  · rintro ⟨a, h, rfl⟩; exact ⟨a, h, rfl⟩
  · rintro ⟨a, h, rfl⟩; exact ⟨a, h, rfl⟩
theorem isN_clA {L : List Ac} {x y : Nm} : isN (clA L x) y ↔ isN L y := by
  unfold isN
  constructor
  · rintro (h | ⟨b, hb, rfl⟩)
    · exact .inl h
    · obtain ⟨a, ha, rfl⟩ := mem_clA.1 hb
      exact .inr ⟨a, ha, (clA_nm a x).symm⟩
  · rintro (h | ⟨a, ha, rfl⟩)
    · exact .inl h
    · exact .inr ⟨_, mem_clA.2 ⟨a, ha, rfl⟩, clA_nm a x⟩
def fnd (L : List Ac) (x : Nm) : Option Ac := L.find? fun a => decide (a.nm = x)
theorem fnd_some {L : List Ac} {x : Nm} {a : Ac} (h : fnd L x = some a) : a ∈ L ∧ a.nm = x := by
  have h1 := List.find?_some h
  exact ⟨List.mem_of_find?_eq_some h, by simpa using h1⟩
theorem fnd_none {L : List Ac} {x : Nm} (h : fnd L x = none) : ¬ ∃ a ∈ L, a.nm = x := by
  rintro ⟨a, ha, e⟩
  have := List.find?_eq_none.1 h a ha
  simp [e] at this
theorem fnd_of {L : List Ac} (hG : Good L) {a : Ac} (ha : a ∈ L) : fnd L a.nm = some a := by
  cases h : fnd L a.nm with
  | none => exact absurd ⟨a, ha, rfl⟩ (fnd_none h)
  | some b =>
    obtain ⟨hb, e⟩ := fnd_some h
    rw [hG.one hb ha e]
def useB (L : List Ac) (x : Nm) : Bool := L.any fun b => decide (x ∈ anc b.nm) && !b.cl
/-- what Close answers -/
def closeE (L : List Ac) (x : Nm) : Int := match fnd L x with
  | none => 61
  | some a => if a.cl = true then 63 else if useB L x = true then 65 else 0
theorem useB_iff {L : List Ac} (hG : Good L) (x : Nm) : useB L x = true ↔ ∃ y ∈ desc L 6 x, ∃ a ∈ L, a.nm = y ∧ a.cl = false := by
  simp only [useB, List.any_eq_true, Bool.and_eq_true, decide_eq_true_eq, Bool.not_eq_true']
  constructor
  · rintro ⟨b, hb, h1, h2⟩
    exact ⟨b.nm, (mem_below hG x b.nm).2 ⟨⟨b, hb, rfl⟩, h1⟩, b, hb, rfl, h2⟩
  · rintro ⟨y, hy, a, ha, rfl, h2⟩
    exact ⟨a, ha, ((mem_below hG x a.nm).1 hy).2, h2⟩
theorem heap_set {W : World} {b k : Nat} {c : Array Value} {t : TypeId} (h : W.heap[b]? = some (.cells c t)) (v : Value) : (W.setCell ⟨b, k, none⟩ v).heap[b]? = some (.cells (c.setIfInBounds k v) t) := by
  obtain ⟨hlt, hk⟩ := Array.getElem?_eq_some_iff.1 h
  show (W.heap.modify b _)[b]? = _
  rw [Array.getElem?_eq_getElem (by rw [Array.size_modify]; exact hlt), Array.getElem_modify_self, hk]
  rfl
theorem ChAt.inj {W : World} {d : Nat} {S : Nat → Prop} {L : List Ac} {g : Gh} (h : ChAt W d S L g) {a b : Ac} (ha : a ∈ L) (hb : b ∈ L) (e : g.nd a.nm = g.nd b.nm) : a.nm = b.nm := by
  have h1 := h.name ha
  have h2 := h.name hb
  rw [e, h2] at h1
  injection h1 with h1
  injection h1 with h1
  injection h1 with h1
  have := congrArg Array.toList h1
  simpa using this.symm
/-- the account at its node closed -/
theorem ChAt.close {W : World} {d : Nat} {S : Nat → Prop} {L : List Ac} {g : Gh} (h : ChAt W d S L g) {a : Ac} (ha : a ∈ L) : ChAt (W.setCell ⟨g.nd a.nm, 3, none⟩ (.bool true)) d S (clA L a.nm) g := by
  have hnode := h.node a ha
  have oth : ∀ {k : Nat} {o : Obj}, W.heap[k]? = some o → k ≠ g.nd a.nm → (W.setCell ⟨g.nd a.nm, 3, none⟩ (.bool true)).heap[k]? = some o := fun {k o} hk hne => (Below.heap_setCell _ _ _ _ hne).trans hk
  have eks : ∀ y, ksl g (clA L a.nm) y = ksl g L y := fun y => by rw [ksl, ksl, kids_clA]
  refine ⟨h.top, ?_, fun b hb => ?_, fun x hx => ?_, h.sd, fun b hb => ?_, fun x q hx => h.sq x q (isN_clA.1 hx)⟩
  · rw [eks]
    refine oth h.tn (fun e => ?_)
    have := h.tn
    rw [e, hnode] at this
    injection this with this
    injection this with h1 h2
    exact absurd h2 (by decide)
  · obtain ⟨c, hc, rfl⟩ := mem_clA.1 hb
    rw [clA_nm, eks]
    by_cases e : c.nm = a.nm
    · rw [if_pos e]
      have := heap_set (k := 3) hnode (.bool true)
      rw [← e] at this ⊢
      have h2 := h.node c hc
      rw [heap_set h2 (.bool true)]
      rfl
    · rw [if_neg e]
      exact oth (h.node c hc) (fun e2 => e (h.inj hc ha e2))
  · rw [kids_clA]
    have erow : rowA g (clA L a.nm) x = rowA g L x := by rw [rowA, rowA, kids_clA]
    rw [erow]
    rcases h.row x (isN_clA.1 hx) with h1 | ⟨q, h1, h2, h3⟩
    · exact .inl h1
    · refine .inr ⟨q, h1, oth h2 (fun e => ?_), h3⟩
      rw [e, hnode] at h2
      injection h2 with h2
      injection h2 with h4 h5
      exact absurd h5 (by decide)
  · obtain ⟨c, hc, rfl⟩ := mem_clA.1 hb
    rw [clA_nm]
    exact h.sn c hc
theorem result16 {tmps : Array Value} {w : World} {a : Addr} {z : Int} (hp : tmps[4]?.getD undef = .pointer (some a)) (hc : w.cell? a = some (.int .i64 z)) : (results Tryz.f18 tmps).run Tryz.prog w = .ok (.int .i64 z) w := by
  simp [results, hp, asAddr, go_sem, hc]
/-- what Close leaves -/
def CloseOut (W : World) (d : Nat) (S : Nat → Prop) (L : List Ac) (g : Gh) (x : Nm) (w' : World) : Prop :=
  (closeE L x = 0 ∧ ChAt w' d S (clA L x) g ∧ Fr S W w') ∨ (closeE L x ≠ 0 ∧ Below W.heap.size W w')
set_option maxRecDepth 100000 in
set_option maxHeartbeats 4000000 in
theorem close_any {W : World} {d : Nat} {S : Nat → Prop} {L : List Ac} {g : Gh} (h : ChAt W d S L g) (hG : Good L) (hS : ∀ k, S k → k < W.heap.size) (t : ByteArray) (ht : t.size < 4611686018427387904) :
    Calls Tryz.prog 18 #[ptr d, .string t] W fun e w' => e = .returned (.int .i64 (closeE L t.data.toList)) ∧ CloseOut W d S L g t.data.toList w' := by
  have hSw : ∀ (w1 : World), Below W.heap.size W w1 → Calls Tryz.prog 83 #[ptr d, .string t] w1 fun e w' => e = .returned (seekV g L t.data.toList) ∧ Below w1.heap.size w1 w' := fun w1 hb =>
    seek_any (h.keep (fun k hk => hb.block k (hS k hk))) hG (fun k hk => Nat.lt_of_lt_of_le (hS k hk) hb.size) t ht
  have DS := hide hSw; have HC := hide h; have HG := hide hG; have HS := hide hS
  obtain ⟨x, hxe⟩ : ∃ x, x = t.data.toList := ⟨_, rfl⟩
  rw [← hxe] at DS ⊢
  clear hSw h hG hS hxe
  cases hf : fnd L x with
  | none =>
    have hv : seekV g L x = .pointer none := by rw [seekV, if_neg (fnd_none hf)]
    have he : closeE L x = 61 := by rw [closeE, hf]
    have HE := hide he
    rw [hv] at DS
    rw [he]
    clear hv he hf
    refine (callsIn_wide (n := 4)).1 ?_
    refine callsIn_of_wp_marks Tryz.func18 rfl trivial ?_ rfl
    simp only [Tryz.ntmps18, List.size_toArray, List.length_cons, List.length_nil, Nat.reduceAdd, Nat.reduceSub, Array.replicate_succ, Array.replicate_zero, List.push_toArray, List.append_toArray, List.nil_append, List.cons_append]
    gi_wp2_with fail
    refine ⟨trivial, (callsIn_wide.2 (unhide DS _ ((Below.refl _ W).alloc (Nat.le_refl _) _))).mono ?_⟩
    rintro e w1 ⟨rfl, hb1⟩
    have r1 : Boxed w1 W.heap.size 74 (.int .i64 0) := (hb1.block W.heap.size (by simp)).trans (Boxed.new W 74 (.int .i64 0))
    have B1 : Hid (Below W.heap.size W w1) := ((Below.refl _ W).alloc (Nat.le_refl _) _).trans (hb1.mono (by simp))
    have cr := r1.cell
    have fr := r1.frozen
    clear hb1 r1
    gi_wp2
    exact ⟨_, result16 (a := ⟨W.heap.size, 0, none⟩) rfl (World.cell?_setCell_same _ _ _ cr), rfl, .inr ⟨by rw [unhide HE]; decide, (unhide B1).setCell (Nat.le_refl _) _⟩⟩
  | some a =>
    obtain ⟨ha, hax⟩ := fnd_some hf
    have hv : seekV g L x = ptr (g.nd x) := by rw [seekV, if_pos ⟨a, ha, hax⟩]
    rw [hv] at DS
    obtain ⟨nx, hnx⟩ : ∃ nx, nx = g.nd x := ⟨_, rfl⟩
    rw [← hnx] at DS
    have hnode : W.heap[nx]? = some (.cells (cellsA a (ksl g L a.nm)) 68) := by rw [hnx, ← hax]; exact (unhide HC).node a ha
    have HND := hide hnode; have HNX := hide hnx; have HAX := hide hax; have HA := hide ha; have HF := hide hf
    clear hv hnx hax ha hf hnode
    refine (callsIn_wide (n := 4)).1 ?_
    refine callsIn_of_wp_marks Tryz.func18 rfl trivial ?_ rfl
    simp only [Tryz.ntmps18, List.size_toArray, List.length_cons, List.length_nil, Nat.reduceAdd, Nat.reduceSub, Array.replicate_succ, Array.replicate_zero, List.push_toArray, List.append_toArray, List.nil_append, List.cons_append]
    gi_wp2_with fail
    refine ⟨trivial, (callsIn_wide.2 (unhide DS _ ((Below.refl _ W).alloc (Nat.le_refl _) _))).mono ?_⟩
    rintro e w1 ⟨rfl, hb1⟩
    have r1 : Boxed w1 W.heap.size 74 (.int .i64 0) := (hb1.block W.heap.size (by simp)).trans (Boxed.new W 74 (.int .i64 0))
    have b1 : Below W.heap.size W w1 := ((Below.refl _ W).alloc (Nat.le_refl _) _).trans (hb1.mono (by simp))
    have z1 : W.heap.size + 1 ≤ w1.heap.size := by have := hb1.size; simp at this; exact this
    have nd1 : w1.heap[nx]? = some (.cells (cellsA a (ksl g L a.nm)) 68) := (b1.block nx (Array.getElem?_eq_some_iff.1 (unhide HND)).1).trans (unhide HND)
    have c3 : w1.cell? ⟨nx, 3, none⟩ = some (.bool a.cl) := cell_of nd1 rfl
    have cr := r1.cell
    have fr := r1.frozen
    have B1 := hide b1; have R1 := hide r1; have Z1 := hide z1
    clear hb1 r1 b1 z1 nd1
    cases hcl : a.cl with
    | true =>
      rw [hcl] at c3
      have HE : Hid (closeE L x = 63) := by show _ = _; rw [closeE, unhide HF]; simp only [hcl, if_true]
      clear hcl
      gi_wp2
      exact ⟨_, result16 (a := ⟨W.heap.size, 0, none⟩) rfl (World.cell?_setCell_same _ _ _ cr), by rw [unhide HE], .inr ⟨by rw [unhide HE]; decide, (unhide B1).setCell (Nat.le_refl _) _⟩⟩
    | false =>
      rw [hcl] at c3
      have HCL := hide hcl
      clear hcl
      gi_wp2_with fail
      refine ⟨trivial, (callsIn_wide.2 (below_any nx _)).mono ?_⟩
      rintro e w2 ⟨rfl, hw⟩
      have r2 : Boxed w2 W.heap.size 74 (.int .i64 0) := by rw [hw]; exact (unhide R1).alloc _
      have b2 : Boxed w2 w1.heap.size 98 (ptr (g.nd x)) := by rw [hw, ← unhide HNX]; exact Boxed.new w1 98 _
      have B2 : Below W.heap.size W w2 := by rw [hw]; exact (unhide B1).alloc (by have := unhide Z1; omega) _
      have z2 : W.heap.size + 1 ≤ w2.heap.size := by rw [hw]; have := unhide Z1; simp; omega
      have hC2 : ChAt w2 d S L g := (unhide HC).keepG (KeepsG.below B2)
      have hxN : isN L x := .inr ⟨a, unhide HA, unhide HAX⟩
      have hseq := hide (below_gives (unhide HG) 6 x hxN (by omega) w2 w1.heap.size hC2 b2)
      have HR2 := hide r2; have HB2 := hide B2; have HZ2 := hide z2
      clear hw r2 b2 B2 z2 hC2 hxN
      gi_wp2_with fail
      refine range_st (α := Nm) gdT gdT_lpy (by omega) (gf := 166) (lb := #[ptr w1.heap.size]) rfl enters39 (unhide hseq) (fun _ => rfl)
        (fun pre W' => (Boxed W' W.heap.size 74 (.int .i64 0) ∧ Below W.heap.size W W') ∧ ∀ y ∈ pre, ∀ b ∈ L, b.nm = y → b.cl = true)
        (fun pre W' => (Boxed W' W.heap.size 74 (.int .i64 65) ∧ Below W.heap.size W W') ∧ useB L x = true)
        (OwnL.and (OwnL.and (ownL_boxed _ _ 74 (fun (_ : List Nm) => .int .i64 0)) (ownL_below (Nat.le_refl _) (by have := unhide HZ2; omega))) (ownL_pure _ _))
        (OwnL.and (OwnL.and (ownL_boxed _ _ 74 (fun (_ : List Nm) => .int .i64 65)) (ownL_below (Nat.le_refl _) (by have := unhide HZ2; omega))) (ownL_pure _ _))
        ⟨⟨unhide HR2, unhide HB2⟩, fun y hy => by cases hy⟩
        (fun z => { tmps := #[ptr d, .string t, undef, undef, ptr W.heap.size, ptr nx, ptr (g.nd z), ptr d, .string t, ptr nx, .bool false, ptr nx, .bool false, .bool false, ptr nx, ptr nx, ptr nx, .pointer (some ⟨nx, 3, none⟩), .bool false, ptr nx, .func (.func 166) #[] #[ptr w1.heap.size], ptr (g.nd z), undef, undef, undef, undef, undef, undef, undef, undef, undef, undef], defers := [] }) ?assign ?body ?done ?stop
      case assign =>
        intro l z W' K hK
        unfold encN
        gi_wp2
        exact hK
      case body =>
        rintro l pre z X ⟨⟨hv, hb⟩, hall⟩ hpx
        have hz : z ∈ desc L 6 x := hpx.subset (by simp)
        obtain ⟨b, hbL, hbz⟩ := ((mem_below (unhide HG) x z).1 hz).1
        have hnb : X.heap[g.nd z]? = some (.cells (cellsA b (ksl g L b.nm)) 68) := by rw [← hbz]; exact (hb.block _ (unhide HS _ ((unhide HC).sn b hbL))).trans ((unhide HC).node b hbL)
        have cz : X.cell? ⟨g.nd z, 3, none⟩ = some (.bool b.cl) := cell_of hnb rfl
        have cr := hv.cell
        have fr := hv.frozen
        obtain ⟨nz, hnz⟩ : ∃ nz, nz = g.nd z := ⟨_, rfl⟩
        rw [← hnz] at cz ⊢
        have HV := hide hv; have HB := hide hb; have HALL := hide hall; have HZ := hide hz; have HBL := hide hbL; have HBZ := hide hbz
        clear hnz hnb hv hb hall hz hbL hbz hpx
        cases hcl : b.cl with
        | true =>
          rw [hcl] at cz
          have HCB := hide hcl
          clear hcl
          gi_wp2
          refine .inl ⟨rfl, KeepsG.refl _ _, ⟨unhide HV, unhide HB⟩, fun y hy c hc e => ?_⟩
          rcases List.mem_append.1 hy with hy | hy
          · exact unhide HALL y hy c hc e
          · simp at hy
            subst hy
            rw [(unhide HG).one hc (unhide HBL) (e.trans (unhide HBZ).symm)]
            exact unhide HCB
        | false =>
          rw [hcl] at cz
          have HCB := hide hcl
          clear hcl
          gi_wp2
          exact .inr ⟨rfl, (keepG_box (unhide HV) rfl).from _, ⟨(unhide HV).set _, (unhide HB).setCell (Nat.le_refl _) _⟩, (useB_iff (unhide HG) x).2 ⟨z, unhide HZ, b, unhide HBL, unhide HBZ, unhide HCB⟩⟩
      case done =>
        rintro D X hD ⟨⟨hv, hb⟩, hall⟩ hK
        have HE : Hid (closeE L x = 0) := by
          show _ = _
          rw [closeE, unhide HF]
          simp only [unhide HCL]
          rw [if_neg (by decide), if_neg]
          intro hu
          obtain ⟨y, hy, b, hbL, e, hcl⟩ := (useB_iff (unhide HG) x).1 hu
          have := hall y hy b hbL e
          rw [this] at hcl
          cases hcl
        have hnx : X.heap[nx]? = some (.cells (cellsA a (ksl g L a.nm)) 68) := (hb.block nx (Array.getElem?_eq_some_iff.1 (unhide HND)).1).trans (unhide HND)
        have c3 : X.cell? ⟨nx, 3, none⟩ = some (.bool a.cl) := cell_of hnx rfl
        have f3 := froz_of hnx 3
        have hne : nx ≠ W.heap.size := by have := (Array.getElem?_eq_some_iff.1 (unhide HND)).1; omega
        have hv2 : Boxed (X.setCell ⟨nx, 3, none⟩ (.bool true)) W.heap.size 74 (.int .i64 0) := (Below.heap_setCell _ _ _ _ (fun e => hne e.symm)).trans hv
        have cr2 := hv2.cell
        have fr2 := hv2.frozen
        have hC3 : ChAt X d S L g := (unhide HC).keep (fun k hk => hb.block k (unhide HS k hk))
        have hC4 := hC3.close (unhide HA)
        rw [unhide HAX, ← unhide HNX] at hC4
        have HC4 := hide hC4; have HB := hide hb; have HK := hide hK; have HV2 := hide hv2
        have hDz := unhide HZ2
        have hDn : Hid (W.heap.size < D) := by show W.heap.size < D; omega
        have snx : Hid (S nx) := by show S nx; rw [unhide HNX, ← unhide HAX]; exact (unhide HC).sn a (unhide HA)
        clear hnx hv hb hall hC3 hC4 hK hv2
        gi_wp2
        have hK2 : ((X.setCell ⟨nx, 3, none⟩ (.bool true)).setCell ⟨W.heap.size, 0, none⟩ (.int .i64 0)).heap[D]? = some (.deferred (some [])) :=
          (Below.heap_setCell _ _ _ _ (by have := unhide hDn; show D ≠ W.heap.size; omega)).trans ((Below.heap_setCell _ _ _ _ (by have := unhide hDn; have := unhide HS nx (unhide snx); show D ≠ nx; omega)).trans (unhide HK))
        refine ⟨by simp, .inl ⟨_, _, rfl, run_takeDeferred hK2, ?_⟩⟩
        have keep : ∀ k, k < W.heap.size → (((X.setCell ⟨nx, 3, none⟩ (.bool true)).setCell ⟨W.heap.size, 0, none⟩ (.int .i64 0)).putObj D (.deferred none)).heap[k]? = (X.setCell ⟨nx, 3, none⟩ (.bool true)).heap[k]? := fun k hk =>
          (World.putObj_heap_other (by have := unhide hDn; omega)).trans (Below.heap_setCell _ _ _ _ (by show k ≠ W.heap.size; omega))
        refine ⟨_, result16 (a := ⟨W.heap.size, 0, none⟩) rfl ?_, by rw [unhide HE], .inl ⟨unhide HE, (unhide HC4).keep (fun k hk => keep k (unhide HS k hk)), ?_⟩⟩
        · exact (cell_kept (World.cell?_setCell_same _ _ _ cr2) (grownBy_putObj' _ _ _) (fun r e => by cases e; exact ⟨_, hK2, rfl⟩))
        · exact ⟨(unhide HB).os, (unhide HB).tape, (unhide HB).output, by have := (unhide HB).size; simpa using this, fun k hk hs => (keep k hk).trans ((Below.heap_setCell _ _ _ _ (fun e => hs (by have e2 : k = nx := e; rw [e2]; exact unhide snx))).trans ((unhide HB).block k hk))⟩
      case stop =>
        rintro D pre X hD hp ⟨⟨hv, hb⟩, hu⟩ hK
        have HE : Hid (closeE L x = 65) := by
          show _ = _
          rw [closeE, unhide HF]
          simp only [unhide HCL]
          rw [if_neg (by decide), if_pos hu]
        have cr := hv.cell
        have HB := hide hb; have HK := hide hK
        clear hv hb hu hK
        gi_wp2
        refine ⟨by simp, .inl ⟨_, _, rfl, run_takeDeferred (unhide HK), ?_⟩⟩
        refine ⟨_, result16 (a := ⟨W.heap.size, 0, none⟩) (z := 65) rfl ?_, by rw [unhide HE], .inr ⟨by rw [unhide HE]; decide, (unhide HB).trans (belowK_b (w := W) (Nat.le_refl _) _ D _ _ (by have := unhide HZ2; omega) (unhide HK) rfl rfl)⟩⟩
        exact (cell_kept cr (grownBy_putObj' _ _ _) (fun r e => by cases e; exact ⟨_, unhide HK, rfl⟩))
end Go.Proofs.YtdeibifjiefapaaGreatDoor
