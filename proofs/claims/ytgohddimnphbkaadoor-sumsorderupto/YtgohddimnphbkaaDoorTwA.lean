/- sums: the rows' amounts by their names (the map told of totalsWith), in memory. -/
import Derived.Test.YtgohddimnphbkaaDoorSmB
import Derived.Test.YtgohddimnphbkaaDoorSumM
import Derived.Maps.OwnRows
import Derived.Maps.AppendAt
import Derived.Maps.RangeWalk
import Derived.Sort.KeysCollected
namespace Go.Proofs.YtgohddimnphbkaaDoor
open Go Go.ChangeShapes Go.WideShapes Go.ChangeAt Go.RowKit Go.Maps
set_option linter.unusedVariables false
abbrev Rows8 := Rws (List UInt8)
/-- a name's amounts among rows -/
def amts (L : Rows8) (k : List UInt8) : List Int := (L.filter fun r => decide (r.1 = k)).map (·.2)
theorem amts_snoc (L : Rows8) (s k : List UInt8) (x : Int) : amts (L ++ [(s, x)]) k = amts L k ++ (if s = k then [x] else []) := by
  unfold amts
  rw [List.filter_append, List.map_append]
  by_cases h : s = k <;> simp [h]
theorem amts_len (L : Rows8) (k : List UInt8) : (amts L k).length ≤ L.length := by
  unfold amts
  rw [List.length_map]
  exact List.length_filter_le _ _
theorem amts_sum (L : Rows8) (k : List UInt8) : sm id (amts L k) = own L k := by
  unfold amts own
  rw [sm_map, sm_filter]
  exact sm_congr fun r _ => by by_cases h : r.1 = k <;> simp [h]
theorem amts_mem {L : Rows8} {k : List UInt8} {x : Int} (h : x ∈ amts L k) : (k, x) ∈ L := by
  unfold amts at h
  obtain ⟨r, hr, rfl⟩ := List.mem_map.1 h
  obtain ⟨hr1, hk⟩ := List.mem_filter.1 hr
  have hk1 : r.1 = k := by simpa using hk
  rw [← hk1]
  exact hr1
theorem amts_nil {L : Rows8} {k : List UInt8} (h : k ∉ L.map (·.1)) : amts L k = [] := by
  refine List.eq_nil_iff_forall_not_mem.2 fun x hx => h ?_
  exact List.mem_map.2 ⟨_, amts_mem hx, rfl⟩
theorem amts_ne {L : Rows8} {k : List UInt8} (h : k ∈ L.map (·.1)) : amts L k ≠ [] := by
  obtain ⟨r, hr, rfl⟩ := List.mem_map.1 h
  intro e
  have : r.2 ∈ amts L r.1 := List.mem_map.2 ⟨r, List.mem_filter.2 ⟨hr, by simp⟩, rfl⟩
  rw [e] at this
  cases this
/-- a map's element that is a slice, held as it is -/
def sliceElem : Value → Option (DataW Value × List MemPlace)
  | .slice p n c => some (.held (.slice p n c), [])
  | _ => none
theorem sliceElem_inv {v : Value} {y : DataW Value × List MemPlace} (h : sliceElem v = some y) : ∃ p n c, v = .slice p n c ∧ y = (.held v, []) := by
  unfold sliceElem at h
  split at h
  · injection h with h; exact ⟨_, _, _, rfl, h.symm⟩
  · cases h
theorem zero72 (w : World) : (zeroValue 72).run Tryd.prog w = .ok (.slice none 0 0) w := by kernel_rfl
theorem info2 : (Tryd.prog.info? 2).map (fun i => (i.zero, i.size, i.bytes)) = some (some (.int .i64 0), 1, 8) := by kernel_rfl
structure TAt (w : World) (B b n : Nat) (D : DataW Value) (L : Rows8) (V : List UInt8 → Value) : Prop where
  map : w.ownsMap Tryd.prog 9 sliceElem b n D
  val : ∀ k, D.atKey (.string k) (.held (.slice none 0 0)) = .held (V k)
  key : ∀ k, Maps.has D (.string k) = true ↔ k ∈ L.map (·.1)
  row : ∀ k, w.ownsInts B 2 .i64 (V k) (amts L k)
  nil : ∀ k, k ∉ L.map (·.1) → V k = .slice none 0 0
  apart : ∀ k k', k ≠ k' → k ∈ L.map (·.1) → k' ∈ L.map (·.1) → (V k).ownBlock ≠ (V k').ownBlock
theorem ints_slice {w : World} {B : Nat} {v : Value} {zs : List Int} (h : w.ownsInts B 2 .i64 v zs) : ∃ p n c, v = .slice p n c := by
  rcases h.1.2 with ⟨e, _⟩ | ⟨g, c, xs, e, _⟩
  · exact ⟨_, _, _, e⟩
  · exact ⟨_, _, _, e⟩
theorem ints_block {w : World} {B : Nat} {v : Value} {zs : List Int} (h : w.ownsInts B 2 .i64 v zs) {g : Nat} (hg : v.ownBlock = some g) : B ≤ g ∧ g < w.heap.size := by
  rcases h.1.2 with ⟨e, _⟩ | ⟨g', c, xs, e, hB, hh, _⟩
  · rw [e] at hg; cases hg
  · rw [e] at hg
    have e2 : g' = g := by injection hg
    subst e2
    exact ⟨hB, (Array.getElem?_eq_some_iff.1 hh).1⟩
theorem ints_some {w : World} {B : Nat} {v : Value} {zs : List Int} (h : w.ownsInts B 2 .i64 v zs) (hz : zs ≠ []) : ∃ g, v.ownBlock = some g := by
  rcases h.1.2 with ⟨e, h2⟩ | ⟨g', c, xs, e, hB, hh, _⟩
  · exact absurd (List.eq_nil_of_length_eq_zero h2) hz
  · exact ⟨g', by rw [e]; rfl⟩
theorem TAt.made (w : World) (B : Nat) (hB : w.heap.size < B) : TAt (w.alloc (.map #[] 0)) B w.heap.size 0 (.map []) [] (fun _ => .slice none 0 0) where
  map := World.ownsMap_made w _ _ _
  val k := rfl
  key k := by simp [has_eq]
  row k := World.ownsInts_nil _ _ _ _
  nil k _ := rfl
  apart k k' _ h := by simp at h
/-- whatever leaves the map's block and the rows' blocks alone -/
theorem TAt.kept {w w' : World} {B b n : Nat} {D : DataW Value} {L : Rows8} {V : List UInt8 → Value} (h : TAt w B b n D L V) {row : Option Nat} (hg : w.grownBy w' row) (hb : some b ≠ row) (hr : ∀ k, k ∈ L.map (·.1) → (V k).ownBlock ≠ row) : TAt w' B b n D L V where
  map := h.map.kept hg hb
  val := h.val
  key := h.key
  row k := by
    by_cases hk : k ∈ L.map (·.1)
    · exact (h.row k).kept hg (.inr (hr k hk))
    · exact (h.row k).kept hg (.inl (by rw [h.nil k hk]; rfl))
  nil := h.nil
  apart := h.apart
theorem TAt.alloc {w : World} {B b n : Nat} {D : DataW Value} {L : Rows8} {V : List UInt8 → Value} (h : TAt w B b n D L V) (o : Obj) : TAt (w.alloc o) B b n D L V where
  map := h.map.alloc o
  val := h.val
  key := h.key
  row k := (h.row k).alloc o
  nil := h.nil
  apart := h.apart
theorem TAt.drew {w : World} {B b n : Nat} {D : DataW Value} {L : Rows8} {V : List UInt8 → Value} (h : TAt w B b n D L V) : TAt w.drew B b n D L V := ⟨h.map.drew, h.val, h.key, h.row, h.nil, h.apart⟩
set_option maxRecDepth 100000 in
theorem TAt.look {w : World} {B b n : Nat} {D : DataW Value} {L : Rows8} {V : List UInt8 → Value} (h : TAt w B b n D L V) {s : ByteArray} (hs : s.size ≤ maxLen) :
    (Instr.lookup 71 (.map (some b)) (.string s) false).run Tryd.prog w = .ok (V s.data.toList) w := by
  obtain ⟨v, ps, hrun, hR⟩ := h.map.lookup (string_keyed Tryd.underlying9) Tryd.underlying71 (zero72 w) (zd := .held (.slice none 0 0)) (zp := []) rfl (keyM hs)
  rw [h.val] at hR
  obtain ⟨p, n, c, rfl, e⟩ := sliceElem_inv hR
  have e2 : DataW.held (V s.data.toList) = DataW.held (Value.slice p n c) := congrArg Prod.fst e
  injection e2 with e2
  rw [e2]
  exact hrun
set_option maxRecDepth 100000 in
set_option maxHeartbeats 1000000 in
theorem TAt.step {w : World} {B b n : Nat} {D : DataW Value} {L : Rows8} {V : List UInt8 → Value} (h : TAt w B b n D L V) (hB : B ≤ w.heap.size) (hbB : b < B) (hn : n < maxLen) (hl : L.length ≤ 16777216) {s : ByteArray} (hs : s.size ≤ maxLen) {x : Int} (hx : (Lit.int .i64 x).wf = true) (p : Nat) (hp : (∀ j u, [Value.int .i64 x][j]? = some u → w.cell? ((⟨p, 0, none⟩ : Addr).add j) = some u)) (ty : TypeId) :
    ∃ v' w2 w3 D' V', (Builtin.append_ #[72, 72] ty #[V s.data.toList, .slice (some ⟨p, 0, none⟩) 1 1]).run Tryd.prog w = .ok v' w2 ∧ (Instr.mapUpdate 71 (.map (some b)) (.string s) v').run Tryd.prog w2 = .ok () w3 ∧
      TAt w3 B b (n + 1) D' (L ++ [(s.data.toList, x)]) V' ∧ w3.os = w.os ∧ w3.tape = w.tape ∧ w3.output = w.output ∧ w.heap.size ≤ w3.heap.size ∧ (∀ k, k < B → k ≠ b → w3.heap[k]? = w.heap[k]?) ∧ w.grownBy w2 (V s.data.toList).ownBlock := by
  obtain ⟨i0, hi, hz0, hz1, hz2⟩ := info_parts info2
  have hrow := h.row s.data.toList
  have hlen := amts_len L s.data.toList
  obtain ⟨v', w2, hrun, hown, hg, hnil, hloc⟩ := run_append_own_at (P := Tryd.prog) w B 72 ty 2 i0 (.int .i64 0) 1 8 Tryd.underlying72 hi hz0 hz1 hz2 rfl (by decide) _ _ _ hrow.1 ⟨p, 0, none⟩ 1 1 [.int .i64 x] rfl hp (ints_oneCell .i64 [x]) (by unfold maxLen; omega) (by omega) hB
  have hrow' : w2.ownsInts B 2 .i64 v' (amts L s.data.toList ++ [x]) := hrow.appended hown hx
  obtain ⟨p', n', c', hv'⟩ := ints_slice hrow'
  have hgb : some b ≠ (V s.data.toList).ownBlock := fun e => by
    have := ints_block hrow e.symm
    omega
  have hmap2 := h.map.kept hg hgb
  obtain ⟨w3, hrun3, hmap3, hg3⟩ := hmap2.update (val := v') (d := .held v') (ps := []) (string_keyed Tryd.underlying9) Tryd.underlying71 hn (keyM hs) (by rw [hv']; rfl)
  have hfresh : ∀ k, k ≠ s.data.toList → k ∈ L.map (·.1) → (V k).ownBlock ≠ v'.ownBlock := fun k hk hm e => by
    obtain ⟨g, hgk⟩ := ints_some (h.row k) (amts_ne hm)
    have hgl := ints_block (h.row k) hgk
    rcases hloc with hloc | hloc
    · rw [hloc] at e
      by_cases hsm : s.data.toList ∈ L.map (·.1)
      · exact h.apart k _ hk hm hsm e
      · rw [hgk, h.nil _ hsm] at e
        cases e
    · rw [hgk, hloc] at e
      injection e with e
      omega
  have hnb : ∀ g, v'.ownBlock = some g → g ≠ b := fun g hg' e => by
    have := ints_block hrow' hg'
    omega
  have hold : ∀ k, k < B → k ≠ b → w3.heap[k]? = w.heap[k]? := fun k hk hkb => by
    refine (hg3.block k (Nat.lt_of_lt_of_le (by omega) hg.size) (fun e => hkb (Option.some.inj e))).trans (hg.block k (by omega) (fun e => ?_))
    have := ints_block hrow e.symm
    omega
  refine ⟨v', w2, w3, D.put (.string s.data.toList) (.held v'), fun k => if k = s.data.toList then v' else V k, hrun, hrun3, ?_, hg3.os.trans hg.os, hg3.tape.trans hg.tape, hg3.output.trans hg.output, Nat.le_trans hg.size hg3.size, hold, hg⟩
  refine ⟨hmap3, fun k => ?_, fun k => ?_, fun k => ?_, fun k hk => ?_, fun k k' hne hk hk' => ?_⟩
  · by_cases e : k = s.data.toList
    · subst e; rw [atKey_put_same h.map.isMap (by trivial)]; simp
    · rw [atKey_put_other (by simpa using e), h.val]; simp [e]
  · by_cases e : k = s.data.toList
    · subst e; rw [has_put_same h.map.isMap (by trivial)]; simp
    · rw [has_put_other (by simpa using e), h.key]; simp [e]
  · rw [amts_snoc]
    by_cases e : k = s.data.toList
    · subst e
      rw [if_pos rfl, if_pos rfl]
      exact hrow'.kept hg3 (.inr (fun e => hnb b e rfl))
    · rw [if_neg e, if_neg (fun h => e h.symm), List.append_nil]
      by_cases hm : k ∈ L.map (·.1)
      · have h1 : w2.ownsInts B 2 .i64 (V k) (amts L k) := by
          by_cases hsm : s.data.toList ∈ L.map (·.1)
          · exact (h.row k).kept hg (.inr (h.apart k _ e hm hsm))
          · refine (h.row k).kept hg (.inr fun e2 => ?_)
            rw [h.nil _ hsm] at e2
            obtain ⟨g, hgk⟩ := ints_some (h.row k) (amts_ne hm)
            rw [hgk] at e2
            cases e2
        refine h1.kept hg3 (.inr fun e2 => ?_)
        have := ints_block (h.row k) e2
        omega
      · rw [h.nil k hm, amts_nil hm]
        exact World.ownsInts_nil _ _ _ _
  · have e : k ≠ s.data.toList := fun e => hk (by rw [e]; simp)
    rw [if_neg e]
    exact h.nil k (fun hm => hk (by simp [List.map_append]; exact .inl (by simpa using hm)))
  · have hm : ∀ {q}, q ∈ (L ++ [(s.data.toList, x)]).map (·.1) → q ≠ s.data.toList → q ∈ L.map (·.1) := fun {q} hq hne => by
      rw [List.map_append, List.mem_append] at hq
      rcases hq with hq | hq
      · exact hq
      · simp at hq; exact absurd hq hne
    by_cases e : k = s.data.toList
    · have e' : k' ≠ s.data.toList := fun e2 => hne (by rw [e, e2])
      simp only [if_pos e, if_neg e']
      exact (hfresh k' e' (hm hk' e')).symm
    · simp only [if_neg e]
      by_cases e' : k' = s.data.toList
      · simp only [if_pos e']
        exact hfresh k e (hm hk e)
      · simp only [if_neg e']
        exact h.apart k k' hne (hm hk e) (hm hk' e')
end Go.Proofs.YtgohddimnphbkaaDoor
