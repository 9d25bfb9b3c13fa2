import Derived.Test.YtpeefmbdhkfhmaaGreatDoorW02
import Derived.Test.YtpeefmbdhkfhmaaGreatDoorW08
import Derived.Maps.OwnRows
import Derived.Maps.AppendAt
import Derived.Maps.RangeWalk
import Derived.Sort.KeysCollected
import Derived.Deep.MidRow
import Derived.Test.YtpeefmbdhkfhmaaGreatDoorW04
/- Layer 8, no program in it: rows that come to others; the names that a state tells; lists that rise. -/
namespace Go.Proofs.YtpeefmbdhkfhmaaGreatDoor
set_option linter.unusedSectionVars false
/-- two rising lists of the same members are one -/
theorem rise_ext {β : Type} {lt : β → β → Prop} (hi : ∀ x, ¬ lt x x) (ht : ∀ x y z, lt x y → lt y z → lt x z) : ∀ {a b : List β}, a.Pairwise lt → b.Pairwise lt → (∀ x, x ∈ a ↔ x ∈ b) → a = b
  | [], [], _, _, _ => rfl
  | [], y :: b, _, _, h => absurd ((h y).2 (by simp)) (by simp)
  | x :: a, [], _, _, h => absurd ((h x).1 (by simp)) (by simp)
  | x :: a, y :: b, ha, hb, h => by
    rw [List.pairwise_cons] at ha hb
    have e : x = y := by
      rcases List.mem_cons.1 ((h x).1 (by simp)) with e | e
      · exact e
      · rcases List.mem_cons.1 ((h y).2 (by simp)) with f | f
        · exact f.symm
        · exact absurd (ht _ _ _ (ha.1 y f) (hb.1 x e)) (hi x)
    subst e
    congr 1
    refine rise_ext hi ht ha.2 hb.2 fun z => ⟨fun hz => ?_, fun hz => ?_⟩
    · rcases List.mem_cons.1 ((h z).1 (by simp [hz])) with f | f
      · subst f; exact absurd (ha.1 _ hz) (hi _)
      · exact f
    · rcases List.mem_cons.1 ((h z).2 (by simp [hz])) with f | f
      · subst f; exact absurd (hb.1 _ hz) (hi _)
      · exact f
theorem rise_nodup {β : Type} {lt : β → β → Prop} (hi : ∀ x, ¬ lt x x) {a : List β} (h : a.Pairwise lt) : a.Nodup :=
  List.Pairwise.imp (S := fun x y => x ≠ y) (fun {x y} (hxy : lt x y) (e : x = y) => hi x (by rw [← e] at hxy; exact hxy)) h
/-- one drawn out of a list -/
theorem draw_perm {β : Type} (l : List β) (k : Nat) (h : k < l.length) : (l[k] :: (l.take k ++ l.drop (k + 1))).Perm l := by
  have e : l = l.take k ++ l[k] :: l.drop (k + 1) := by rw [← List.drop_eq_getElem_cons h, List.take_append_drop]
  refine List.Perm.trans ?_ (List.Perm.of_eq e.symm)
  exact (List.perm_middle (a := l[k]) (l₁ := l.take k) (l₂ := l.drop (k + 1))).symm
theorem sm_nonneg {β : Type} {f : β → Int} {a : List β} (h : ∀ x ∈ a, 0 ≤ f x) : 0 ≤ sm f a := by
  have := sm_le (f := fun _ => 0) (g := f) h
  rwa [sm_zero fun _ _ => rfl] at this
theorem sm_ge_one {β : Type} {f : β → Int} {a : List β} (h : ∀ x ∈ a, 0 ≤ f x) {x : β} (hx : x ∈ a) : f x ≤ sm f a := by
  induction a with
  | nil => simp at hx
  | cons y a ih =>
    have h1 := h y (by simp)
    have h2 := sm_nonneg (f := f) (a := a) fun z hz => h z (by simp [hz])
    simp only [sm]
    rcases List.mem_cons.1 hx with e | e
    · subst e; omega
    · have := ih (fun z hz => h z (by simp [hz])) e; omega
variable {α : Type} [DecidableEq α]
theorem own_le {L : Rws α} {K : List α} (hc : ∀ n, own L n ≠ 0 → n ∈ K) (n : α) : own L n ≤ deb L K := by
  by_cases h : own L n = 0
  · rw [h]; exact sm_nonneg fun _ _ => pos_nonneg _
  · refine Int.le_trans ?_ (sm_ge_one (f := fun n => pos (own L n)) (fun _ _ => pos_nonneg _) (hc n h))
    show own L n ≤ pos (own L n)
    unfold pos; split <;> omega
theorem own_ge {L : Rws α} {K : List α} (hc : ∀ n, own L n ≠ 0 → n ∈ K) (n : α) : -own L n ≤ cre L K := by
  by_cases h : own L n = 0
  · rw [h]; exact sm_nonneg fun _ _ => neg_nonneg _
  · refine Int.le_trans ?_ (sm_ge_one (f := fun n => neg (own L n)) (fun _ _ => neg_nonneg _) (hc n h))
    show -own L n ≤ neg (own L n)
    unfold neg; split <;> omega
theorem deb_nonneg (L : Rws α) (K : List α) : 0 ≤ deb L K := sm_nonneg fun _ _ => pos_nonneg _
theorem cre_nonneg (L : Rws α) (K : List α) : 0 ≤ cre L K := sm_nonneg fun _ _ => neg_nonneg _
/-- what a side becomes with rows: by the names of the rows alone -/
theorem side_more (f : Int → Int) (f0 : f 0 = 0) (L R : Rws α) {K J N : List α} (hK : K.Nodup) (hJ : J.Nodup) (hN : N.Nodup) (hc : ∀ n, own L n ≠ 0 → n ∈ K) (hd : ∀ n, own (L ++ R) n ≠ 0 → n ∈ J) (hn : ∀ r ∈ R, r.1 ∈ N) :
    sm (fun n => f (own (L ++ R) n)) J = sm (fun n => f (own L n)) K + sm (fun n => f (own (L ++ R) n) - f (own L n)) N := by
  have hA := nodup_nub (K ++ (J ++ N))
  have e1 : sm (fun n => f (own (L ++ R) n)) J = sm (fun n => f (own (L ++ R) n)) (nub (K ++ (J ++ N))) := by
    refine sm_same hJ hA fun n h => ⟨fun m => (mem_nub _ _).2 (by simp [m]), fun _ => hd n fun e => h (by simp only [e, f0])⟩
  have e2 : sm (fun n => f (own L n)) K = sm (fun n => f (own L n)) (nub (K ++ (J ++ N))) := by
    refine sm_same hK hA fun n h => ⟨fun m => (mem_nub _ _).2 (by simp [m]), fun _ => hc n fun e => h (by simp only [e, f0])⟩
  have e3 : sm (fun n => f (own (L ++ R) n) - f (own L n)) N = sm (fun n => f (own (L ++ R) n) - f (own L n)) (nub (K ++ (J ++ N))) := by
    refine sm_same hN hA fun n h => ⟨fun m => (mem_nub _ _).2 (by simp [m]), fun _ => ?_⟩
    refine Classical.byContradiction fun q => h ?_
    have : own R n = 0 := own_none fun r hr e => q (e ▸ hn r hr)
    simp only [own_append, this, Int.add_zero, Int.sub_self]
  rw [e1, e2, e3, sm_sub]; omega
theorem deb_more (L R : Rws α) {K J N : List α} (hK : K.Nodup) (hJ : J.Nodup) (hN : N.Nodup) (hc : ∀ n, own L n ≠ 0 → n ∈ K) (hd : ∀ n, own (L ++ R) n ≠ 0 → n ∈ J) (hn : ∀ r ∈ R, r.1 ∈ N) :
    deb (L ++ R) J = deb L K + sm (fun n => pos (own (L ++ R) n) - pos (own L n)) N := side_more pos rfl L R hK hJ hN hc hd hn
theorem cre_more (L R : Rws α) {K J N : List α} (hK : K.Nodup) (hJ : J.Nodup) (hN : N.Nodup) (hc : ∀ n, own L n ≠ 0 → n ∈ K) (hd : ∀ n, own (L ++ R) n ≠ 0 → n ∈ J) (hn : ∀ r ∈ R, r.1 ∈ N) :
    cre (L ++ R) J = cre L K + sm (fun n => neg (own (L ++ R) n) - neg (own L n)) N := side_more neg rfl L R hK hJ hN hc hd hn
/-- the names that a state tells: at or above one whose own balance is not 0 -/
def Held (up : α → List α) (L : Rws α) (n : α) : Prop := ∃ x, own L x ≠ 0 ∧ n ∈ x :: up x
theorem held_own (up : α → List α) {L M : Rws α} (h : ∀ n, own L n = own M n) (n : α) : Held up L n ↔ Held up M n :=
  ⟨fun ⟨x, a, b⟩ => ⟨x, by rw [← h x]; exact a, b⟩, fun ⟨x, a, b⟩ => ⟨x, by rw [h x]; exact a, b⟩⟩
/-- how often a name lies at or above one of a list, each of it once -/
theorem held_count (up : α → List α) {L : Rws α} {K : List α} (hK : ∀ n, n ∈ K ↔ own L n ≠ 0) (n : α) : sm (fun x => if n ∈ x :: up x then 1 else 0) K ≠ 0 ↔ Held up L n := by
  constructor
  · intro h
    refine Classical.byContradiction fun q => h (sm_zero fun x hx => ?_)
    rw [if_neg fun m => q ⟨x, (hK x).1 hx, m⟩]
  · rintro ⟨x, a, b⟩ h
    have := sm_ge_one (f := fun x => if n ∈ x :: up x then (1 : Int) else 0) (a := K) (fun y _ => by show (0 : Int) ≤ if _ then 1 else 0; split <;> omega) ((hK x).2 a)
    simp only [b, if_true] at this
    omega
/-- the rows that tell the own balances over again -/
theorem own_told (L : Rws α) {K : List α} (hK : K.Nodup) (hc : ∀ n, own L n ≠ 0 → n ∈ K) (n : α) : own (K.map fun m => (m, own L m)) n = own L n := by
  unfold own
  rw [sm_map]
  show sm (fun m => if m = n then own L m else 0) K = own L n
  rw [sm_congr (g := fun m => if m = n then own L n else 0) fun m _ => by by_cases e : m = n <;> simp [e], sm_one hK]
  by_cases h : n ∈ K
  · rw [if_pos h]
  · rw [if_neg h]; exact (Classical.byContradiction fun q => h (hc n fun e => q e.symm))
end Go.Proofs.YtpeefmbdhkfhmaaGreatDoor
/- sums: the rows' amounts by their names (the map told of totalsWith), in memory. -/
namespace Go.Proofs.YtpeefmbdhkfhmaaGreatDoor
open Go Go.ChangeShapes Go.WideShapes Go.ChangeAt Go.RowKit Go.Maps
set_option linter.unusedVariables false
abbrev Rows8 := Rws (List UInt8)
/-- a name's amounts among rows -/
def amts (L : Rows8) (k : List UInt8) : List Int := (L.filter fun r => decide (r.1 = k)).map (·.2)
theorem amts_snoc (L : Rows8) (s k : List UInt8) (x : Int) : amts (L ++ [(s, x)]) k = amts L k ++ (if s = k then [x] else []) := by
  unfold amts
  rw [List.filter_append, List.map_append]
  by_cases h : s = k <;> simp [h]
theorem amts_len (L : Rows8) (k : List UInt8) : (amts L k).length ≤ L.length := by
  unfold amts
  rw [List.length_map]
  exact List.length_filter_le _ _
theorem amts_sum (L : Rows8) (k : List UInt8) : sm id (amts L k) = own L k := by
  unfold amts own
  rw [sm_map, sm_filter]
  exact sm_congr fun r _ => by by_cases h : r.1 = k <;> simp [h]
theorem amts_mem {L : Rows8} {k : List UInt8} {x : Int} (h : x ∈ amts L k) : (k, x) ∈ L := by
  unfold amts at h
  obtain ⟨r, hr, rfl⟩ := List.mem_map.1 h
  obtain ⟨hr1, hk⟩ := List.mem_filter.1 hr
  have hk1 : r.1 = k := by simpa using hk
  rw [← hk1]
  exact hr1
theorem amts_nil {L : Rows8} {k : List UInt8} (h : k ∉ L.map (·.1)) : amts L k = [] := by
  refine List.eq_nil_iff_forall_not_mem.2 fun x hx => h ?_
  exact List.mem_map.2 ⟨_, amts_mem hx, rfl⟩
theorem amts_ne {L : Rows8} {k : List UInt8} (h : k ∈ L.map (·.1)) : amts L k ≠ [] := by
  obtain ⟨r, hr, rfl⟩ := List.mem_map.1 h
  intro e
  have : r.2 ∈ amts L r.1 := List.mem_map.2 ⟨r, List.mem_filter.2 ⟨hr, by simp⟩, rfl⟩
  rw [e] at this
  cases this
/-- a map's element that is a slice, held as it is -/
def sliceElem : Value → Option (DataW Value × List MemPlace)
  | .slice p n c => some (.held (.slice p n c), [])
  | _ => none
theorem sliceElem_inv {v : Value} {y : DataW Value × List MemPlace} (h : sliceElem v = some y) : ∃ p n c, v = .slice p n c ∧ y = (.held v, []) := by
  unfold sliceElem at h
  split at h
  · injection h with h; exact ⟨_, _, _, rfl, h.symm⟩
  · cases h
theorem zero72 (w : World) : (zeroValue 84).run Tryz.prog w = .ok (.slice none 0 0) w := by kernel_rfl
theorem info2 : (Tryz.prog.info? 2).map (fun i => (i.zero, i.size, i.bytes)) = some (some (.int .i64 0), 1, 8) := by kernel_rfl
structure TAt (w : World) (B b n : Nat) (D : DataW Value) (L : Rows8) (V : List UInt8 → Value) : Prop where
  map : w.ownsMap Tryz.prog 9 sliceElem b n D
  val : ∀ k, D.atKey (.string k) (.held (.slice none 0 0)) = .held (V k)
  key : ∀ k, Maps.has D (.string k) = true ↔ k ∈ L.map (·.1)
  row : ∀ k, w.ownsInts B 2 .i64 (V k) (amts L k)
  nil : ∀ k, k ∉ L.map (·.1) → V k = .slice none 0 0
  apart : ∀ k k', k ≠ k' → k ∈ L.map (·.1) → k' ∈ L.map (·.1) → (V k).ownBlock ≠ (V k').ownBlock
theorem ints_slice {w : World} {B : Nat} {v : Value} {zs : List Int} (h : w.ownsInts B 2 .i64 v zs) : ∃ p n c, v = .slice p n c := by
  rcases h.1.2 with ⟨e, _⟩ | ⟨g, c, xs, e, _⟩
  · exact ⟨_, _, _, e⟩
  · exact ⟨_, _, _, e⟩
theorem ints_block {w : World} {B : Nat} {v : Value} {zs : List Int} (h : w.ownsInts B 2 .i64 v zs) {g : Nat} (hg : v.ownBlock = some g) : B ≤ g ∧ g < w.heap.size := by
  rcases h.1.2 with ⟨e, _⟩ | ⟨g', c, xs, e, hB, hh, _⟩
  · rw [e] at hg; cases hg
  · rw [e] at hg
    have e2 : g' = g := by injection hg
    subst e2
    exact ⟨hB, (Array.getElem?_eq_some_iff.1 hh).1⟩
theorem ints_some {w : World} {B : Nat} {v : Value} {zs : List Int} (h : w.ownsInts B 2 .i64 v zs) (hz : zs ≠ []) : ∃ g, v.ownBlock = some g := by
  rcases h.1.2 with ⟨e, h2⟩ | ⟨g', c, xs, e, hB, hh, _⟩
  · exact absurd (List.eq_nil_of_length_eq_zero h2) hz
  · exact ⟨g', by rw [e]; rfl⟩
theorem TAt.made (w : World) (B : Nat) (hB : w.heap.size < B) : TAt (w.alloc (.map #[] 0)) B w.heap.size 0 (.map []) [] (fun _ => .slice none 0 0) where
  map := World.ownsMap_made w _ _ _
  val k := rfl
  key k := by simp [has_eq]
  row k := World.ownsInts_nil _ _ _ _
  nil k _ := rfl
  apart k k' _ h := by simp at h
/-- whatever leaves the map's block and the rows' blocks alone -/
theorem TAt.kept {w w' : World} {B b n : Nat} {D : DataW Value} {L : Rows8} {V : List UInt8 → Value} (h : TAt w B b n D L V) {row : Option Nat} (hg : w.grownBy w' row) (hb : some b ≠ row) (hr : ∀ k, k ∈ L.map (·.1) → (V k).ownBlock ≠ row) : TAt w' B b n D L V where
  map := h.map.kept hg hb
  val := h.val
  key := h.key
  row k := by
    by_cases hk : k ∈ L.map (·.1)
    · exact (h.row k).kept hg (.inr (hr k hk))
    · exact (h.row k).kept hg (.inl (by rw [h.nil k hk]; rfl))
  nil := h.nil
  apart := h.apart
theorem TAt.alloc {w : World} {B b n : Nat} {D : DataW Value} {L : Rows8} {V : List UInt8 → Value} (h : TAt w B b n D L V) (o : Obj) : TAt (w.alloc o) B b n D L V where
  map := h.map.alloc o
  val := h.val
  key := h.key
  row k := (h.row k).alloc o
  nil := h.nil
  apart := h.apart
theorem TAt.drew {w : World} {B b n : Nat} {D : DataW Value} {L : Rows8} {V : List UInt8 → Value} (h : TAt w B b n D L V) : TAt w.drew B b n D L V := ⟨h.map.drew, h.val, h.key, h.row, h.nil, h.apart⟩
set_option maxRecDepth 100000 in
theorem TAt.look {w : World} {B b n : Nat} {D : DataW Value} {L : Rows8} {V : List UInt8 → Value} (h : TAt w B b n D L V) {s : ByteArray} (hs : s.size ≤ maxLen) :
    (Instr.lookup 183 (.map (some b)) (.string s) false).run Tryz.prog w = .ok (V s.data.toList) w := by
  obtain ⟨v, ps, hrun, hR⟩ := h.map.lookup (string_keyed Tryz.underlying9) Tryz.underlying183 (zero72 w) (zd := .held (.slice none 0 0)) (zp := []) rfl (keyM hs)
  rw [h.val] at hR
  obtain ⟨p, n, c, rfl, e⟩ := sliceElem_inv hR
  have e2 : DataW.held (V s.data.toList) = DataW.held (Value.slice p n c) := congrArg Prod.fst e
  injection e2 with e2
  rw [e2]
  exact hrun
set_option maxRecDepth 100000 in
set_option maxHeartbeats 1000000 in
theorem TAt.step {w : World} {B b n : Nat} {D : DataW Value} {L : Rows8} {V : List UInt8 → Value} (h : TAt w B b n D L V) (hB : B ≤ w.heap.size) (hbB : b < B) (hn : n < maxLen) (hl : L.length ≤ 16777216) {s : ByteArray} (hs : s.size ≤ maxLen) {x : Int} (hx : (Lit.int .i64 x).wf = true) (p : Nat) (hp : (∀ j u, [Value.int .i64 x][j]? = some u → w.cell? ((⟨p, 0, none⟩ : Addr).add j) = some u)) (ty : TypeId) :
    ∃ v' w2 w3 D' V', (Builtin.append_ #[84, 84] ty #[V s.data.toList, .slice (some ⟨p, 0, none⟩) 1 1]).run Tryz.prog w = .ok v' w2 ∧ (Instr.mapUpdate 183 (.map (some b)) (.string s) v').run Tryz.prog w2 = .ok () w3 ∧
      TAt w3 B b (n + 1) D' (L ++ [(s.data.toList, x)]) V' ∧ w3.os = w.os ∧ w3.tape = w.tape ∧ w3.output = w.output ∧ w.heap.size ≤ w3.heap.size ∧ (∀ k, k < B → k ≠ b → w3.heap[k]? = w.heap[k]?) ∧ w.grownBy w2 (V s.data.toList).ownBlock := by
  obtain ⟨i0, hi, hz0, hz1, hz2⟩ := info_parts info2
  have hrow := h.row s.data.toList
  have hlen := amts_len L s.data.toList
  obtain ⟨v', w2, hrun, hown, hg, hnil, hloc⟩ := run_append_own_at (P := Tryz.prog) w B 84 ty 2 i0 (.int .i64 0) 1 8 Tryz.underlying84 hi hz0 hz1 hz2 rfl (by decide) _ _ _ hrow.1 ⟨p, 0, none⟩ 1 1 [.int .i64 x] rfl hp (ints_oneCell .i64 [x]) (by unfold maxLen; omega) (by omega) hB
  have hrow' : w2.ownsInts B 2 .i64 v' (amts L s.data.toList ++ [x]) := hrow.appended hown hx
  obtain ⟨p', n', c', hv'⟩ := ints_slice hrow'
  have hgb : some b ≠ (V s.data.toList).ownBlock := fun e => by
    have := ints_block hrow e.symm
    omega
  have hmap2 := h.map.kept hg hgb
  obtain ⟨w3, hrun3, hmap3, hg3⟩ := hmap2.update (val := v') (d := .held v') (ps := []) (string_keyed Tryz.underlying9) Tryz.underlying183 hn (keyM hs) (by rw [hv']; rfl)
  have hfresh : ∀ k, k ≠ s.data.toList → k ∈ L.map (·.1) → (V k).ownBlock ≠ v'.ownBlock := fun k hk hm e => by
    obtain ⟨g, hgk⟩ := ints_some (h.row k) (amts_ne hm)
    have hgl := ints_block (h.row k) hgk
    rcases hloc with hloc | hloc
    · rw [hloc] at e
      by_cases hsm : s.data.toList ∈ L.map (·.1)
      · exact h.apart k _ hk hm hsm e
      · rw [hgk, h.nil _ hsm] at e
        cases e
    · rw [hgk, hloc] at e
      injection e with e
      omega
  have hnb : ∀ g, v'.ownBlock = some g → g ≠ b := fun g hg' e => by
    have := ints_block hrow' hg'
    omega
  have hold : ∀ k, k < B → k ≠ b → w3.heap[k]? = w.heap[k]? := fun k hk hkb => by
    refine (hg3.block k (Nat.lt_of_lt_of_le (by omega) hg.size) (fun e => hkb (Option.some.inj e))).trans (hg.block k (by omega) (fun e => ?_))
    have := ints_block hrow e.symm
    omega
  refine ⟨v', w2, w3, D.put (.string s.data.toList) (.held v'), fun k => if k = s.data.toList then v' else V k, hrun, hrun3, ?_, hg3.os.trans hg.os, hg3.tape.trans hg.tape, hg3.output.trans hg.output, Nat.le_trans hg.size hg3.size, hold, hg⟩
  refine ⟨hmap3, fun k => ?_, fun k => ?_, fun k => ?_, fun k hk => ?_, fun k k' hne hk hk' => ?_⟩
  · by_cases e : k = s.data.toList
    · subst e; rw [atKey_put_same h.map.isMap (by trivial)]; simp
    · rw [atKey_put_other (by simpa using e), h.val]; simp [e]
  · by_cases e : k = s.data.toList
    · subst e; rw [has_put_same h.map.isMap (by trivial)]; simp
    · rw [has_put_other (by simpa using e), h.key]; simp [e]
  · rw [amts_snoc]
    by_cases e : k = s.data.toList
    · subst e
      rw [if_pos rfl, if_pos rfl]
      exact hrow'.kept hg3 (.inr (fun e => hnb b e rfl))
    · rw [if_neg e, if_neg (fun h => e h.symm), List.append_nil]
      by_cases hm : k ∈ L.map (·.1)
      · have h1 : w2.ownsInts B 2 .i64 (V k) (amts L k) := by
          by_cases hsm : s.data.toList ∈ L.map (·.1)
          · exact (h.row k).kept hg (.inr (h.apart k _ e hm hsm))
          · refine (h.row k).kept hg (.inr fun e2 => ?_)
            rw [h.nil _ hsm] at e2
            obtain ⟨g, hgk⟩ := ints_some (h.row k) (amts_ne hm)
            rw [hgk] at e2
            cases e2
        refine h1.kept hg3 (.inr fun e2 => ?_)
        have := ints_block (h.row k) e2
        omega
      · rw [h.nil k hm, amts_nil hm]
        exact World.ownsInts_nil _ _ _ _
  · have e : k ≠ s.data.toList := fun e => hk (by rw [e]; simp)
    rw [if_neg e]
    exact h.nil k (fun hm => hk (by simp [List.map_append]; exact .inl (by simpa using hm)))
  · have hm : ∀ {q}, q ∈ (L ++ [(s.data.toList, x)]).map (·.1) → q ≠ s.data.toList → q ∈ L.map (·.1) := fun {q} hq hne => by
      rw [List.map_append, List.mem_append] at hq
      rcases hq with hq | hq
      · exact hq
      · simp at hq; exact absurd hq hne
    by_cases e : k = s.data.toList
    · have e' : k' ≠ s.data.toList := fun e2 => hne (by rw [e, e2])
      simp only [if_pos e, if_neg e']
      exact (hfresh k' e' (hm hk' e')).symm
    · simp only [if_neg e]
      by_cases e' : k' = s.data.toList
      · simp only [if_pos e']
        exact hfresh k e (hm hk e)
      · simp only [if_neg e']
        exact h.apart k k' hne (hm hk e) (hm hk' e')
end Go.Proofs.YtpeefmbdhkfhmaaGreatDoor
/- rows in memory. -/
namespace Go.Proofs.YtpeefmbdhkfhmaaGreatDoor
open Go Go.ChangeShapes Go.WideShapes Go.ChangeAt Go.RowKit Go.Maps
set_option linter.unusedVariables false
/-- a row: its nine cells -/
structure Ro where
  i0 : Int
  i1 : Int
  i2 : Int
  i3 : Int
  s4 : ByteArray
  acc : ByteArray
  amt : Int
  s7 : ByteArray
  s8 : ByteArray
def Ro.vals (r : Ro) : List Value := [.int .i64 r.i0, .int .i64 r.i1, .int .i64 r.i2, .int .i64 r.i3, .string r.s4, .string r.acc, .int .i64 r.amt, .string r.s7, .string r.s8]
def Ro.row (r : Ro) : List UInt8 × Int := (r.acc.data.toList, r.amt)
def rws (R : List Ro) : Rows8 := R.map Ro.row
theorem rws_append (R S : List Ro) : rws (R ++ S) = rws R ++ rws S := List.map_append
theorem rws_len (R : List Ro) : (rws R).length = R.length := List.length_map _
/-- rows in memory: the slice that starts at p -/
def RowsAt (w : World) (p : Option Addr) (R : List Ro) : Prop :=
  ∀ k (hk : k < R.length), ∃ g, p = some ⟨g, 0, none⟩ ∧ g < w.heap.size ∧ w.rangeAt g (k * 9) (R[k]).vals
theorem RowsAt.block {w w' : World} {p : Option Addr} {R : List Ro} (h : RowsAt w p R) (hs : w.heap.size ≤ w'.heap.size) (hb : ∀ g, p = some ⟨g, 0, none⟩ → w'.heap[g]? = w.heap[g]?) : RowsAt w' p R := fun k hk => by
  obtain ⟨g, e, hg, hr⟩ := h k hk
  refine ⟨g, e, by omega, fun j v hv => ?_⟩
  exact (World.cell?_of_block (a := ⟨g, k * 9 + j, none⟩) (hb g e)).trans (hr j v hv)
theorem RowsAt.below {w w' : World} {p : Option Addr} {R : List Ro} (h : RowsAt w p R) {B : Nat} (hB : w.heap.size ≤ B) (hb : Below B w w') : RowsAt w' p R := fun k hk => by
  obtain ⟨g, e, hg, hr⟩ := h k hk
  have hs := hb.size
  refine ⟨g, e, by omega, fun j v hv => ?_⟩
  exact (World.cell?_of_block (a := ⟨g, k * 9 + j, none⟩) (hb.block g (by omega))).trans (hr j v hv)
/-- a row's load, under a name -/
def ld35 (x : Value) : Sem Value := Instr.loadAt 74 x
theorem ld35_is (x : Value) : Instr.loadAt 74 x = ld35 x := rfl
theorem size35 : (Tryz.prog.info? 74).map (·.size) = some 9 := by kernel_rfl
theorem run_ld35 {w : World} {g k : Nat} {r : Ro} (h : w.rangeAt g (k * 9) r.vals) : (ld35 (.pointer (some ⟨g, k * 9, none⟩))).run Tryz.prog w = .ok (.agg #[.int .i64 r.i0, .int .i64 r.i1, .int .i64 r.i2, .int .i64 r.i3, .string r.s4, .string r.acc, .int .i64 r.amt, .string r.s7, .string r.s8]) w :=
  run_loadAt_mid (P := Tryz.prog) w g (k * 9) 74 r.vals _ h Tryz.underlying74 rfl size35
end Go.Proofs.YtpeefmbdhkfhmaaGreatDoor
/- strings.Split (77) at a colon, whatever the length. -/
namespace Go.Proofs.YtpeefmbdhkfhmaaGreatDoor
open Go Go.ChangeShapes Go.WideShapes Go.ChangeAt Go.RowKit
set_option linter.unusedVariables false
theorem spl_byte : ∀ (l : List UInt8), 0 < l.count 58 → ∃ i : Nat, i < l.length ∧ Lib.indexByte l 58 = (i : Int) ∧ spl l = l.take i :: spl (l.drop (i + 1)) ∧ l.count 58 = (l.drop (i + 1)).count 58 + 1
  | [], h => by simp at h
  | c :: l, h => by
    by_cases hc : c = 58
    · subst hc
      exact ⟨0, by simp, by simp [Lib.indexByte], by simp [spl], by simp⟩
    · have h' : 0 < l.count 58 := by rw [List.count_cons_of_ne (by simpa using hc)] at h; exact h
      obtain ⟨i, h0, h1, h2, h3⟩ := spl_byte l h'
      refine ⟨i + 1, by simp; omega, ?_, ?_, ?_⟩
      · rw [Lib.indexByte, if_neg (by simpa using hc), h1, if_neg (by simp)]
        omega
      · rw [spl_cons hc h2]
        rfl
      · rw [List.count_cons_of_ne (by simpa using hc), h3]
        rfl
theorem spl_one : ∀ {l h : List UInt8}, spl l = [h] → h = l
  | [], h, e => by simp [spl] at e; exact e
  | c :: l, h, e => by
    by_cases hc : c = 58
    · rw [spl, if_pos hc] at e
      obtain ⟨a, t, e2⟩ := spl_ne l
      rw [e2] at e
      simp at e
    · obtain ⟨a, t, e2⟩ := spl_ne l
      rw [spl_cons hc e2] at e
      simp only [List.cons.injEq] at e
      obtain ⟨e3, e4⟩ := e
      subst e4
      rw [← e3, spl_one e2]
theorem ext_take (x : ByteArray) (i : Nat) : (x.extract 0 i).data.toList = x.data.toList.take i := by
  rw [ByteArray.data_extract, Array.toList_extract, List.extract_eq_take_drop, List.drop_zero, Nat.sub_zero]
theorem ext_drop (x : ByteArray) (i : Nat) : (x.extract i x.size).data.toList = x.data.toList.drop i := by
  rw [ByteArray.data_extract, Array.toList_extract, List.extract_eq_take_drop, List.take_of_length_le (by simp)]
theorem text_of {x : ByteArray} {l : List UInt8} (h : x.data.toList = l) : x = ⟨l.toArray⟩ := by
  obtain ⟨d⟩ := x
  simp only at h
  rw [← h]
/-- while a text is cut: so many parts lie in the new block -/
structure CutAt (w : World) (s x : ByteArray) (c j : Nat) (wr : World) : Prop where
  below : Below w.heap.size w wr
  lt : w.heap.size < wr.heap.size
  fz : ∀ k, wr.frozen? ⟨w.heap.size, k, none⟩ = false
  any : ∀ k, k < c + 1 → ∃ v, wr.cell? ⟨w.heap.size, k, none⟩ = some v
  cells : ∀ k, k < j → wr.cell? ⟨w.heap.size, k, none⟩ = some (.string ⟨((spl s.data.toList).getD k []).toArray⟩)
  rest : spl x.data.toList = (spl s.data.toList).drop j
  cnt : x.data.toList.count 58 + j = c
  le : x.size ≤ s.size
set_option maxRecDepth 100000 in
set_option maxHeartbeats 2000000 in
theorem genSplit_any (s : ByteArray) (hs : s.size < 4611686018427387904) (c : Nat) (hc : s.data.toList.count 58 = c) (hc6 : c < 6) (w : World) :
    Calls Tryz.prog 252 #[.string s, .string ⟨#[58]⟩, .int .i64 0, .int .i64 (-1)] w fun e w' => e = .returned (.slice (some ⟨w.heap.size, 0, none⟩) (c + 1) (c + 1)) ∧ Below w.heap.size w w' ∧ ∀ k, k < c + 1 → w'.cell? ⟨w.heap.size, k, none⟩ = some (.string ⟨((spl s.data.toList).getD k []).toArray⟩) := by
  have d1 := hide (Tryz.strings_Count_one s 58 w)
  have hcb : Lib.countByte s.data.toList 58 = c := hc
  rw [hcb] at d1
  have hcl : c ≤ s.size := by rw [← hc]; have := List.count_le_length (a := (58 : UInt8)) (l := s.data.toList); simpa using this
  have hmin : min ((c : Int) + 1) ((s.size : Int) + 1) = (c : Int) + 1 := by omega
  obtain ⟨i0, hi, hz0, hz1, hz2⟩ := info_parts info9
  have hmk0 := run_make (P := Tryz.prog) w 83 9 i0 _ Tryz.underlying83 hi hz0 .i64 .i64 ((c : Int) + 1) ((c : Int) + 1) (by omega) (by omega) (by rw [hz2]; omega) (by omega)
  have ec : ((c : Int) + 1).toNat = c + 1 := by omega
  rw [ec] at hmk0
  obtain ⟨W1, hmk, hcut⟩ : ∃ W1, (Instr.makeSlice 83 (.int .i64 ((c : Int) + 1)) (.int .i64 ((c : Int) + 1))).run Tryz.prog w = .ok (.slice (some ⟨w.heap.size, 0, none⟩) (c + 1) (c + 1)) W1 ∧ Hid (CutAt w s s c 0 W1) := by
    refine ⟨_, hmk0, (Below.refl _ _).alloc (Nat.le_refl _) _, by simp, fun k => by simp, fun k hk => ?_, fun k hk => by omega, rfl, by omega, Nat.le_refl _⟩
    rw [World.cell?_alloc_mark]
    exact ⟨_, Array.getElem?_eq_getElem (by rw [size_madeCells, hz1]; omega)⟩
  clear hi hz0 hz1 hz2 hmk0 ec
  have hI6 : (c : Int) + 1 - 1 = (c : Int) := by omega
  go_enter Tryz.func252, Tryz.ntmps252
  go_wp2_with fail
  refine (unhide d1).mono ?_
  rintro e w1 ⟨rfl, hw⟩
  rw [hw]
  clear hw w1
  go_wp2_with fail
  go_loopw [0, 10] (fun vs vi wr => ∃ (x : ByteArray) (j : Nat), vs = .string x ∧ vi = .int .i64 (j : Int) ∧ CutAt w s x c j wr) (fun _ vi _ => c - (intOf vi).toNat)
  case atStart => exact ⟨s, 0, rfl, rfl, unhide hcut⟩
  case round =>
    obtain ⟨x, j, rfl, rfl, hC⟩ := hrel
    have HC := hide hC
    have hcnt := hC.cnt
    have hxs := hC.le
    by_cases hlt : j < c
    · obtain ⟨i, hi0, hi1, hi2, hi3⟩ := spl_byte x.data.toList (by omega)
      have hil : i < x.size := by simpa using hi0
      have dI := hide (Tryz.strings_Index_one x 58 wr)
      rw [hi1] at dI
      have hI : (j : Int) < (c : Int) := by omega
      obtain ⟨v0, hv0⟩ := hC.any j (by omega)
      have hfz := hC.fz j
      have H2 := hide hi2
      have H3 := hide hi3
      have hII : (i : Int) ≤ (x.size : Int) := by omega
      have hII1 : (i : Int) + 1 ≤ (x.size : Int) := by omega
      clear hC hi0 hi1 hi2 hi3 hcut hcnt
      go_wp2_with fail
      refine (unhide dI).mono ?_
      rintro e w1 ⟨rfl, hw⟩
      rw [hw]
      clear hw w1
      go_wp2_with fail
      have hC := unhide HC
      have h2 := unhide H2
      have h3 := unhide H3
      have hcnt := hC.cnt
      have hr := hC.rest
      rw [h2] at hr
      have hjl : j < (spl s.data.toList).length := by rw [spl_len]; omega
      have hget : (spl s.data.toList).getD j [] = x.data.toList.take i := by
        have e := congrArg List.head? hr
        rw [List.head?_drop] at e
        simp only [List.head?_cons] at e
        rw [List.getD, ← e]
        rfl
      refine ⟨⟨_, j + 1, rfl, by go_num, hC.below.setCell (Nat.le_refl _) _, by simpa using hC.lt, fun k => by simpa using hC.fz k, fun k hk => ?_, fun k hk => ?_, ?_, ?_, ?_⟩, by simp [intOf]; omega⟩
      · by_cases e : k = j
        · subst e
          exact ⟨_, World.cell?_setCell_same _ _ _ hv0⟩
        · rw [World.cell?_setCell_other _ _ _ _ (by intro h'; injection h' with _ h' _; omega)]
          exact hC.any k hk
      · by_cases e : k = j
        · subst e
          rw [World.cell?_setCell_same _ _ _ hv0, hget, text_of (ext_take x i)]
        · rw [World.cell?_setCell_other _ _ _ _ (by intro h'; injection h' with _ h' _; omega)]
          exact hC.cells k (by omega)
      · rw [ext_drop]
        have e := congrArg (List.drop 1) hr
        rw [List.drop_drop] at e
        exact e
      · rw [ext_drop]; omega
      · have h := congrArg List.length (ext_drop x (i + 1))
        have h' : (x.extract (i + 1) x.size).size = (x.data.toList.drop (i + 1)).length := by rw [← h]; simp
        rw [h', List.length_drop]
        simp
        omega
    · have hjc : j = c := by omega
      subst hjc
      have hI : ¬ (j : Int) < (j : Int) := by omega
      obtain ⟨v0, hv0⟩ := hC.any j (by omega)
      have hfz := hC.fz j
      clear hC hcut
      go_wp2_with fail
      go_ret
      have hC := unhide HC
      have hr := hC.rest
      have hx : spl x.data.toList = [x.data.toList] := by
        obtain ⟨h, t, e⟩ := spl_ne x.data.toList
        have hl := spl_len x.data.toList
        rw [e] at hl
        have ht : t = [] := by
          have hk := hC.cnt
          have : t.length = 0 := by rw [List.length_cons] at hl; omega
          exact List.eq_nil_of_length_eq_zero this
        subst ht
        rw [e]
        exact congrArg (fun y => [y]) (spl_one e)
      rw [hx] at hr
      have hget : (spl s.data.toList).getD j [] = x.data.toList := by
        have e := congrArg List.head? hr
        rw [List.head?_drop] at e
        simp only [List.head?_cons] at e
        rw [List.getD, ← e]
        rfl
      refine ⟨by simp, hC.below.setCell (Nat.le_refl _) _, fun k hk => ?_⟩
      by_cases e : k = j
      · subst e
        rw [World.cell?_setCell_same _ _ _ hv0]
        show _ = some (Value.string ⟨((spl s.data.toList).getD k []).toArray⟩)
        rw [hget, ← text_of (x := x) rfl]
      · rw [World.cell?_setCell_other _ _ _ _ (by intro h'; injection h' with _ h' _; omega)]
        exact hC.cells k (by omega)
set_option maxHeartbeats 1000000 in
theorem split_any (s : ByteArray) (hs : s.size < 4611686018427387904) (c : Nat) (hc : s.data.toList.count 58 = c) (hc6 : c < 6) (w : World) :
    Calls Tryz.prog 219 #[.string s, .string ⟨#[58]⟩] w fun e w' => e = .returned (.slice (some ⟨w.heap.size, 0, none⟩) (c + 1) (c + 1)) ∧ Below w.heap.size w w' ∧ ∀ k, k < c + 1 → w'.cell? ⟨w.heap.size, k, none⟩ = some (.string ⟨((spl s.data.toList).getD k []).toArray⟩) := by
  have d := hide (genSplit_any s hs c hc hc6 w)
  go_enter Tryz.func219, Tryz.ntmps219
  go_wp2_with fail
  refine (unhide d).mono ?_
  rintro e w1 ⟨rfl, hb, hcell⟩
  have HB := hide (And.intro hb hcell)
  clear hb hcell
  go_wp2_with fail
  go_ret
  exact ⟨rfl, unhide HB⟩
end Go.Proofs.YtpeefmbdhkfhmaaGreatDoor
