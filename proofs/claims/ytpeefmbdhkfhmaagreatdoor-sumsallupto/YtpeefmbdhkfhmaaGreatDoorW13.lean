import Derived.Test.YtpeefmbdhkfhmaaGreatDoorW12
import Derived.Test.YtpeefmbdhkfhmaaGreatDoorW10
import Derived.Test.YtpeefmbdhkfhmaaGreatDoorW11
/- sums: totalsWith's second loop: what lies in memory, and what is summed. -/
namespace Go.Proofs.YtpeefmbdhkfhmaaGreatDoor
open Go Go.ChangeShapes Go.WideShapes Go.ChangeAt Go.RowKit Go.Maps
set_option linter.unusedVariables false
/-- the rows of numbers that lie apart: those of the names still to come, the debits, the credits -/
structure Lm (B : Nat) (V : List UInt8 → Value) (L : Rows8) (lf : List UInt8 → Prop) (dl cl : List Int) (v10 v11 : Value) (wr : World) : Prop where
  t : ∀ k, lf k → wr.ownsInts B 2 .i64 (V k) (amts L k)
  r10 : wr.ownsInts B 2 .i64 v10 dl
  r11 : wr.ownsInts B 2 .i64 v11 cl
  ne : v10.ownBlock ≠ v11.ownBlock
  a10 : ∀ k, lf k → (V k).ownBlock ≠ v10.ownBlock
  a11 : ∀ k, lf k → (V k).ownBlock ≠ v11.ownBlock
  ap : ∀ k k', k ≠ k' → lf k → lf k' → (V k).ownBlock ≠ (V k').ownBlock
section
variable {B : Nat} {V : List UInt8 → Value} {L : Rows8} {lf : List UInt8 → Prop} {dl cl : List Int} {v10 v11 : Value} {wr wr' : World}
theorem Lm.kept (h : Lm B V L lf dl cl v10 v11 wr) {row : Option Nat} (hg : wr.grownBy wr' row) (h10 : v10.ownBlock ≠ row) (h11 : v11.ownBlock ≠ row) (hk : ∀ k, lf k → (V k).ownBlock ≠ row) : Lm B V L lf dl cl v10 v11 wr' :=
  ⟨fun k hl => (h.t k hl).kept hg (.inr (hk k hl)), h.r10.kept hg (.inr h10), h.r11.kept hg (.inr h11), h.ne, h.a10, h.a11, h.ap⟩
theorem Lm.less (h : Lm B V L lf dl cl v10 v11 wr) {lf' : List UInt8 → Prop} (hl : ∀ k, lf' k → lf k) : Lm B V L lf' dl cl v10 v11 wr :=
  ⟨fun k hk => h.t k (hl k hk), h.r10, h.r11, h.ne, fun k hk => h.a10 k (hl k hk), fun k hk => h.a11 k (hl k hk), fun k k' hne hk hk' => h.ap k k' hne (hl k hk) (hl k' hk')⟩
theorem ints_some_ne {w : World} {B : Nat} {v : Value} {zs : List Int} (h : w.ownsInts B 2 .i64 v zs) (hz : zs ≠ []) : v.ownBlock ≠ none := by
  obtain ⟨g, e⟩ := ints_some h hz
  rw [e]
  exact fun h => by cases h
theorem ints_cells {w : World} {B : Nat} {v : Value} {zs : List Int} (h : w.ownsInts B 2 .i64 v zs) {g : Nat} (hg : v.ownBlock = some g) : ∃ o, w.heap[g]? = some o ∧ o.isCells = true := by
  rcases h.1.2 with ⟨e, _⟩ | ⟨g', c, xs, e, hB, hh, _⟩
  · rw [e] at hg; cases hg
  · rw [e] at hg
    have e2 : g' = g := by injection hg
    subst e2
    exact ⟨_, hh, rfl⟩
theorem ints_ne_walk {w : World} {B : Nat} {v : Value} {zs : List Int} (h : w.ownsInts B 2 .i64 v zs) {r : Nat} {o : Obj} (hr : w.heap[r]? = some o) (ho : o.isCells = false) : v.ownBlock ≠ some r := fun e => by
  obtain ⟨o', h1, h2⟩ := ints_cells h e
  rw [hr] at h1
  cases h1
  rw [ho] at h2
  cases h2
theorem Lm.turn (h : Lm B V L lf dl cl v10 v11 wr) {r : Nat} {o : Obj} (hr : wr.heap[r]? = some o) (ho : o.isCells = false) (hg : wr.grownBy wr' (some r)) : Lm B V L lf dl cl v10 v11 wr' :=
  h.kept hg (ints_ne_walk h.r10 hr ho) (ints_ne_walk h.r11 hr ho) (fun k hk => ints_ne_walk (h.t k hk) hr ho)
theorem Lm.below (h : Lm B V L lf dl cl v10 v11 wr) (hb : Below wr.heap.size wr wr') (hL : ∀ k, lf k → k ∈ L.map (·.1)) (hd : dl ≠ []) (hc : cl ≠ []) : Lm B V L lf dl cl v10 v11 wr' :=
  h.kept (grown_of_below hb) (ints_some_ne h.r10 hd) (ints_some_ne h.r11 hc) (fun k hk => ints_some_ne (h.t k hk) (amts_ne (hL k hk)))
/-- a slice that was made of another one by append: apart from all that lay apart from the other -/
theorem fresh_ne {w : World} {v v' u : Value} {g : Nat} (hu : u.ownBlock = some g) (hg : g < w.heap.size) (hne : u.ownBlock ≠ v.ownBlock) (hl : v'.ownBlock = v.ownBlock ∨ v'.ownBlock = some w.heap.size) : u.ownBlock ≠ v'.ownBlock := fun e => by
  rcases hl with hl | hl
  · rw [hl] at e; exact hne e
  · rw [hl, hu] at e
    injection e with e
    omega
theorem Lm.push10 (h : Lm B V L lf dl cl v10 v11 wr) {v' : Value} {dl' : List Int} (hg : wr.grownBy wr' v10.ownBlock) (hr : wr'.ownsInts B 2 .i64 v' dl') (hl : v'.ownBlock = v10.ownBlock ∨ v'.ownBlock = some wr.heap.size) (hL : ∀ k, lf k → k ∈ L.map (·.1)) (hc : cl ≠ []) : Lm B V L lf dl' cl v' v11 wr' := by
  obtain ⟨g11, e11⟩ := ints_some h.r11 hc
  have l11 := (ints_block h.r11 e11).2
  refine ⟨fun k hk => (h.t k hk).kept hg (.inr (h.a10 k hk)), hr, h.r11.kept hg (.inr (fun e => h.ne e.symm)), ?_, fun k hk => ?_, h.a11, h.ap⟩
  · exact (fresh_ne e11 l11 (fun e => h.ne e.symm) hl).symm
  · obtain ⟨g, e⟩ := ints_some (h.t k hk) (amts_ne (hL k hk))
    exact fresh_ne e (ints_block (h.t k hk) e).2 (h.a10 k hk) hl
theorem Lm.push11 (h : Lm B V L lf dl cl v10 v11 wr) {v' : Value} {cl' : List Int} (hg : wr.grownBy wr' v11.ownBlock) (hr : wr'.ownsInts B 2 .i64 v' cl') (hl : v'.ownBlock = v11.ownBlock ∨ v'.ownBlock = some wr.heap.size) (hL : ∀ k, lf k → k ∈ L.map (·.1)) (hd : dl ≠ []) : Lm B V L lf dl cl' v10 v' wr' := by
  obtain ⟨g10, e10⟩ := ints_some h.r10 hd
  have l10 := (ints_block h.r10 e10).2
  refine ⟨fun k hk => (h.t k hk).kept hg (.inr (h.a11 k hk)), h.r10.kept hg (.inr h.ne), hr, ?_, h.a10, fun k hk => ?_, h.ap⟩
  · exact fresh_ne e10 l10 h.ne hl
  · obtain ⟨g, e⟩ := ints_some (h.t k hk) (amts_ne (hL k hk))
    exact fresh_ne e (ints_block (h.t k hk) e).2 (h.a11 k hk) hl
end
theorem ints_made {W : World} {B q : Nat} {x : Int} (hx : (Lit.int .i64 x).wf = true) (hB : B ≤ q) (hq : W.heap[q]? = some (.cells #[.int .i64 x] 2 (0, 0))) : W.ownsInts B 2 .i64 (.slice (some ⟨q, 0, none⟩) 1 1) [x] :=
  ⟨⟨rfl, .inr ⟨q, 1, _, rfl, hB, hq, Nat.le_refl _, by unfold maxLen; omega, rfl, rfl⟩⟩, fun z hz => by simp at hz; rw [hz]; exact hx⟩
theorem lm_first {wr wx : World} {B b n : Nat} {D : DataW Value} {V : List UInt8 → Value} {L : Rows8} {a c : Int} (hT : TAt wr B b n D L V) (hB : B ≤ wr.heap.size) (ha : (Lit.int .i64 a).wf = true) (hc : (Lit.int .i64 c).wf = true) (hb : Below wr.heap.size wr wx) {p q : Nat} (hpq : p ≠ q) (hp : wr.heap.size ≤ p) (hq : wr.heap.size ≤ q)
    (h1 : wx.heap[p]? = some (.cells #[.int .i64 a] 2 (0, 0))) (h2 : wx.heap[q]? = some (.cells #[.int .i64 c] 2 (0, 0))) :
    Lm B V L (fun k => k ∈ L.map (·.1)) [a] [c] (.slice (some ⟨p, 0, none⟩) 1 1) (.slice (some ⟨q, 0, none⟩) 1 1) wx := by
  have hk : ∀ k, k ∈ L.map (·.1) → ∃ g, (V k).ownBlock = some g ∧ g < wr.heap.size := fun k hk => by
    obtain ⟨g, e⟩ := ints_some (hT.row k) (amts_ne hk)
    exact ⟨g, e, (ints_block (hT.row k) e).2⟩
  refine ⟨fun k hk' => (hT.row k).kept (grown_of_below hb) (.inr (ints_some_ne (hT.row k) (amts_ne hk'))), ints_made ha (by omega) h1, ints_made hc (by omega) h2, fun e => hpq (by simpa [Value.ownBlock] using e), fun k hk' e => ?_, fun k hk' e => ?_, fun k k' hne h1 h2 => hT.apart k k' hne h1 h2⟩
  · obtain ⟨g, e1, hg⟩ := hk k hk'
    rw [e1] at e
    have : g = p := by simpa [Value.ownBlock] using e
    omega
  · obtain ⟨g, e1, hg⟩ := hk k hk'
    rw [e1] at e
    have : g = q := by simpa [Value.ownBlock] using e
    omega
theorem ranges_ints {w : World} {R : Value → Option (DataW Value × List MemPlace)} {b r n cnt : Nat} {D : DataW Value} {left : Lit → Bool} (h : w.ranges Tryz.prog 9 R b r n D left cnt) {B : Nat} {v : Value} {zs : List Int} (hv : w.ownsInts B 2 .i64 v zs) : some b ≠ v.ownBlock ∧ some r ≠ v.ownBlock := by
  obtain ⟨iw, hiw, hiww⟩ := h.iter_walk
  obtain ⟨es, clock, hb, _⟩ := h.owns
  exact ⟨fun e => ints_ne_walk hv hb rfl e.symm, fun e => ints_ne_walk hv hiw (Obj.not_cells_of_walk hiww) e.symm⟩
theorem ranges_below {w w' : World} {R : Value → Option (DataW Value × List MemPlace)} {b r n cnt : Nat} {D : DataW Value} {left : Lit → Bool} (h : w.ranges Tryz.prog 9 R b r n D left cnt) (hb : Below w.heap.size w w') : w'.ranges Tryz.prog 9 R b r n D left cnt := h.kept (grown_of_below hb) (by simp) (by simp)
theorem below_row {w W W' : World} {B n0 : Nat} {v : Value} {zs : List Int} (hb : Below n0 w W) (hv : W.ownsInts B 2 .i64 v zs) (hB : n0 ≤ B) (hg : W.grownBy W' v.ownBlock) (hn : n0 ≤ W.heap.size) : Below n0 w W' :=
  hb.trans ⟨hg.os, hg.tape, hg.output, hg.size, fun k hk => hg.block k (by omega) (fun e => by have := ints_block hv e.symm; omega)⟩
theorem ints_two {w w1 : World} {B : Nat} {v v' : Value} {zs : List Int} {x y : Int} (h : w.ownsInts B 2 .i64 v zs) (hown : w1.ownsRow B 2 1 v' (zs.length + 2) (zs.map (Value.int .i64) ++ [.int .i64 x, .int .i64 y])) (hx : (Lit.int .i64 x).wf = true) (hy : (Lit.int .i64 y).wf = true) : w1.ownsInts B 2 .i64 v' (zs ++ [x, y]) := by
  refine ⟨?_, fun z hz => ?_⟩
  · rw [List.map_append, List.length_append]
    exact hown
  · rcases List.mem_append.1 hz with hz | hz
    · exact h.2 z hz
    · simp at hz
      rcases hz with rfl | rfl
      · exact hx
      · exact hy
theorem cell_two_new (w : World) (x y : Value) (t : TypeId) : ∀ j u, ([x, y] : List Value)[j]? = some u → (w.alloc (.cells #[x, y] t)).cell? ((⟨w.heap.size, 0, none⟩ : Addr).add j) = some u := by
  intro j u hu
  have e : (⟨w.heap.size, 0, none⟩ : Addr).add j = ⟨w.heap.size, 0 + j, none⟩ := Addr.add_mid _ _ _
  rw [e, World.cell?_alloc_mark, Nat.zero_add]
  simpa using hu
theorem two_one (x y : Int) : ∀ u ∈ ([.int .i64 x, .int .i64 y] : List Value), u.oneCell' = true := ints_oneCell .i64 [x, y]
/-- what an own balance becomes -/
def newV (f : List UInt8 → Int) (L : Rows8) (k : List UInt8) : Int := f k + own L k
/-- what is summed so far -/
structure Ln (f : List UInt8 → Int) (L : Rows8) (a c : Int) (ss : List (List UInt8)) (dl cl : List Int) : Prop where
  ds : sm id dl = a + sm (fun k => pos (newV f L k) - pos (f k)) ss
  cs : sm id cl = c + sm (fun k => neg (newV f L k) - neg (f k)) ss
  dn : dl.length = 1 + 2 * ss.length
  cn : cl.length = 1 + 2 * ss.length
  da : ∀ x ∈ dl, isA x
  ca : ∀ x ∈ cl, isA x
  ok : ∀ k ∈ ss, isA (newV f L k)
theorem pos_isA {x : Int} (h : isA x) : isA (pos x) ∧ isA (-pos x) := by
  unfold pos; split <;> omega
theorem neg_isA {x : Int} (h : isA x) : isA (neg x) ∧ isA (-neg x) := by
  unfold neg; split <;> omega
theorem Ln.start (f : List UInt8 → Int) (L : Rows8) {a c : Int} (ha : isA a) (hc : isA c) : Ln f L a c [] [a] [c] where
  ds := by simp [sm]
  cs := by simp [sm]
  dn := rfl
  cn := rfl
  da x hx := by simp at hx; rw [hx]; exact ha
  ca x hx := by simp at hx; rw [hx]; exact hc
  ok k hk := by simp at hk
theorem Ln.step {f : List UInt8 → Int} {L : Rows8} {a c : Int} {ss : List (List UInt8)} {dl cl : List Int} (h : Ln f L a c ss dl cl) {k : List UInt8} (hf : isA (f k)) (hn : isA (newV f L k)) :
    Ln f L a c (ss ++ [k]) (dl ++ [pos (newV f L k), -pos (f k)]) (cl ++ [neg (newV f L k), -neg (f k)]) where
  ds := by rw [sm_append, sm_append, h.ds]; simp [sm]; omega
  cs := by rw [sm_append, sm_append, h.cs]; simp [sm]; omega
  dn := by simp [h.dn]; omega
  cn := by simp [h.cn]; omega
  da x hx := by
    rcases List.mem_append.1 hx with hx | hx
    · exact h.da x hx
    · simp at hx
      rcases hx with rfl | rfl
      · exact (pos_isA hn).1
      · exact (pos_isA hf).2
  ca x hx := by
    rcases List.mem_append.1 hx with hx | hx
    · exact h.ca x hx
    · simp at hx
      rcases hx with rfl | rfl
      · exact (neg_isA hn).1
      · exact (neg_isA hf).2
  ok q hq := by
    rcases List.mem_append.1 hq with hq | hq
    · exact h.ok q hq
    · simp at hq; rw [hq]; exact hn
/-- what totalsWith answers -/
def twOK (f : List UInt8 → Int) (L : Rows8) (a c : Int) : Prop :=
  (∀ k ∈ L.map (·.1), isA (newV f L k)) ∧ isA (a + sm (fun k => pos (newV f L k) - pos (f k)) (nub (L.map (·.1)))) ∧ isA (c + sm (fun k => neg (newV f L k) - neg (f k)) (nub (L.map (·.1))))
def TwOut (f : List UInt8 → Int) (L : Rows8) (a c : Int) (e : Ending) : Prop :=
  (twOK f L a c ∧ e = .returned (.tuple #[.int .i64 (a + sm (fun k => pos (newV f L k) - pos (f k)) (nub (L.map (·.1)))), .int .i64 (c + sm (fun k => neg (newV f L k) - neg (f k)) (nub (L.map (·.1)))), .int .i64 0])) ∨
  (¬ twOK f L a c ∧ ∃ x y, e = .returned (.tuple #[.int .i64 x, .int .i64 y, .int .i64 11]))
theorem nub_of {ss : List (List UInt8)} {L : Rows8} (hnd : ss.Nodup) (hm : ∀ k, k ∈ ss ↔ k ∈ L.map (·.1)) : ss.Perm (nub (L.map (·.1))) :=
  (List.perm_ext_iff_of_nodup hnd (nodup_nub _)).2 fun k => by rw [hm, mem_nub]
theorem nodup_len {α : Type} [DecidableEq α] : ∀ (l m : List α), l.Nodup → (∀ x ∈ l, x ∈ m) → l.length ≤ m.length
  | [], _, _, _ => by simp
  | x :: l, m, hn, hs => by
    rw [List.nodup_cons] at hn
    have hx := hs x (List.mem_cons_self ..)
    have h1 := nodup_len l (m.erase x) hn.2 (fun y hy => (List.mem_erase_of_ne (fun e => hn.1 (by rw [← e]; exact hy))).2 (hs y (List.mem_cons_of_mem _ hy)))
    have h2 := List.length_erase_of_mem hx
    have h3 := List.length_pos_of_mem hx
    simp only [List.length_cons]
    omega
theorem ss_len {ss : List (List UInt8)} {L : Rows8} (hnd : ss.Nodup) (hm : ∀ k ∈ ss, k ∈ L.map (·.1)) : ss.length ≤ L.length := by
  have h := nodup_len ss _ hnd hm
  rwa [List.length_map] at h
theorem Ln.fin {f : List UInt8 → Int} {L : Rows8} {a c : Int} {ss : List (List UInt8)} {dl cl : List Int} (h : Ln f L a c ss dl cl) (hnd : ss.Nodup) (hm : ∀ k, k ∈ ss ↔ k ∈ L.map (·.1)) :
    sm id dl = a + sm (fun k => pos (newV f L k) - pos (f k)) (nub (L.map (·.1))) ∧ sm id cl = c + sm (fun k => neg (newV f L k) - neg (f k)) (nub (L.map (·.1))) ∧ ∀ k ∈ L.map (·.1), isA (newV f L k) :=
  ⟨by rw [h.ds, sm_perm _ (nub_of hnd hm)], by rw [h.cs, sm_perm _ (nub_of hnd hm)], fun k hk => h.ok k ((hm k).2 hk)⟩
end Go.Proofs.YtpeefmbdhkfhmaaGreatDoor
