import Derived.Test.YtcafhmlpmbkhkaaGreatDoorW04
/- Rows of cells laid out as lines: no program in it. -/
namespace Go.Proofs.YtcafhmlpmbkhkaaGreatDoor
set_option linter.unusedVariables false
set_option linter.unusedSimpArgs false
/-- a text as its bytes -/
abbrev Tx := List UInt8
/-- blanks -/
def bl (n : Nat) : Tx := List.replicate n 32
theorem bl_len (n : Nat) : (bl n).length = n := List.length_replicate
theorem bl_add (m n : Nat) : bl m ++ bl n = bl (m + n) := List.replicate_append_replicate
theorem bl_zero : bl 0 = [] := rfl
theorem bl_succ (n : Nat) : bl n ++ [32] = bl (n + 1) := bl_add n 1
/-- a text without the blanks at its end -/
def strip (s : Tx) : Tx := (s.reverse.dropWhile (· == 32)).reverse
theorem strip_nil : strip [] = [] := rfl
theorem strip_snoc_bl (s : Tx) : strip (s ++ [32]) = strip s := by simp [strip]
theorem strip_snoc (s : Tx) (b : UInt8) (h : b ≠ 32) : strip (s ++ [b]) = s ++ [b] := by
  have : (b == 32) = false := beq_eq_false_iff_ne.2 h
  simp [strip, this]
theorem strip_bl (s : Tx) (n : Nat) : strip (s ++ bl n) = strip s := by
  induction n with
  | zero => simp [bl]
  | succ n ih => rw [← bl_succ, ← List.append_assoc, strip_snoc_bl, ih]
theorem snoc_ind {P : Tx → Prop} (h0 : P []) (h1 : ∀ s b, P s → P (s ++ [b])) (s : Tx) : P s := by
  have : ∀ t : Tx, P t.reverse := by
    intro t
    induction t with
    | nil => exact h0
    | cons b t ih => rw [List.reverse_cons]; exact h1 _ _ ih
  have h := this s.reverse
  rwa [List.reverse_reverse] at h
theorem strip_le (s : Tx) : (strip s).length ≤ s.length := by
  refine snoc_ind (P := fun s => (strip s).length ≤ s.length) (Nat.le_refl _) (fun s b ih => ?_) s
  by_cases hb : b = 32
  · subst hb
    rw [strip_snoc_bl, List.length_append]
    omega
  · rw [strip_snoc s b hb]
    exact Nat.le_refl _
theorem strip_back (s : Tx) : strip s ++ bl (s.length - (strip s).length) = s := by
  refine snoc_ind (P := fun s => strip s ++ bl (s.length - (strip s).length) = s) rfl (fun s b ih => ?_) s
  by_cases hb : b = 32
  · subst hb
    rw [strip_snoc_bl, List.length_append]
    have := strip_le s
    rw [show s.length + [(32 : UInt8)].length - (strip s).length = s.length - (strip s).length + 1 by simp; omega, ← bl_succ, ← List.append_assoc, ih]
  · rw [strip_snoc s b hb]
    simp [bl]
theorem strip_over (s t : Tx) (h : strip t ≠ []) : strip (s ++ t) = s ++ strip t := by
  have e := strip_back t
  rw [← e, ← List.append_assoc, strip_bl, strip_bl]
  generalize hu : strip t = u at *
  have h1 : strip u = u := by
    have h2 := strip_bl u (t.length - u.length)
    rw [e, hu] at h2
    exact h2.symm
  rcases List.eq_nil_or_concat u with h0 | ⟨v, b, rfl⟩
  · exact absurd h0 h
  · have hb : b ≠ 32 := by
      intro hb
      subst hb
      rw [List.concat_eq_append, strip_snoc_bl] at h1
      have := strip_le v
      rw [h1, List.length_append] at this
      simp at this
      omega
    rw [List.concat_eq_append, ← List.append_assoc, strip_snoc _ b hb, strip_snoc _ b hb, List.append_assoc]
theorem strip_none (s t : Tx) (h : strip t = []) : strip (s ++ t) = strip s := by
  have e := strip_back t
  rw [h, List.nil_append] at e
  rw [← e, strip_bl]
/-- is nothing but blanks in it? -/
theorem strip_end (s : Tx) (n : Nat) (hn : n ≤ s.length) (h : n = 0 ∨ s[n - 1]? ≠ some 32) (hb : ∀ k, n ≤ k → k < s.length → s[k]? = some 32) : strip s = s.take n := by
  have e : s = s.take n ++ bl (s.length - n) := by
    conv => lhs; rw [← List.take_append_drop n s]
    congr 1
    apply List.ext_getElem?
    intro k
    rw [List.getElem?_drop]
    by_cases hk : n + k < s.length
    · rw [hb (n + k) (by omega) hk, bl, List.getElem?_replicate, if_pos (by omega)]
    · rw [List.getElem?_eq_none (by omega), bl, List.getElem?_replicate, if_neg (by omega)]
  rw [e, strip_bl, ← e]
  rcases h with rfl | h
  · rfl
  · by_cases h0 : n = 0
    · subst h0; rfl
    · have hn1 : n - 1 < s.length := by omega
      have e2 : s.take n = s.take (n - 1) ++ [s[n - 1]] := by
        have := List.take_succ_eq_append_getElem (l := s) (i := n - 1) hn1
        rwa [show n - 1 + 1 = n by omega] at this
      rw [e2]
      refine strip_snoc _ _ ?_
      intro hx
      rw [List.getElem?_eq_getElem hn1, hx] at h
      exact h rfl

/-- a column's width -/
def wid (R : List (List Tx)) (c : Nat) : Nat := R.foldl (fun n r => max n (r.getD c []).length) 0
theorem wid_nil (c : Nat) : wid [] c = 0 := rfl
theorem wid_snoc (R : List (List Tx)) (r : List Tx) (c : Nat) : wid (R ++ [r]) c = max (wid R c) (r.getD c []).length := by simp [wid]
theorem wid_take (R : List (List Tx)) (k : Nat) (r : List Tx) (h : R[k]? = some r) (c : Nat) : wid (R.take (k + 1)) c = max (wid (R.take k) c) (r.getD c []).length := by
  have hk : k < R.length := by
    by_cases hk : k < R.length
    · exact hk
    · rw [List.getElem?_eq_none (by omega)] at h; cases h
  rw [List.take_succ_eq_append_getElem hk, wid_snoc]
  rw [List.getElem?_eq_getElem hk] at h
  rw [Option.some.inj h]
theorem wid_ge {R : List (List Tx)} {r : List Tx} (hr : r ∈ R) (c : Nat) : (r.getD c []).length ≤ wid R c := by
  have go : ∀ (R : List (List Tx)) (n : Nat), n ≤ R.foldl (fun n r => max n (r.getD c []).length) n ∧ ∀ r ∈ R, (r.getD c []).length ≤ R.foldl (fun n r => max n (r.getD c []).length) n := by
    intro R
    induction R with
    | nil => intro n; exact ⟨Nat.le_refl _, by simp⟩
    | cons a R ih =>
      intro n
      obtain ⟨h1, h2⟩ := ih (max n (a.getD c []).length)
      rw [List.foldl_cons]
      refine ⟨by omega, fun r hr => ?_⟩
      rcases List.mem_cons.1 hr with rfl | hr
      · omega
      · exact h2 r hr
  exact (go R 0).2 r hr
theorem wid_le {R : List (List Tx)} {M c : Nat} (h : ∀ r ∈ R, (r.getD c []).length ≤ M) : wid R c ≤ M := by
  have go : ∀ (R : List (List Tx)) (n : Nat), n ≤ M → (∀ r ∈ R, (r.getD c []).length ≤ M) → R.foldl (fun n r => max n (r.getD c []).length) n ≤ M := by
    intro R
    induction R with
    | nil => intro n hn _; exact hn
    | cons a R ih =>
      intro n hn hR
      rw [List.foldl_cons]
      exact ih _ (by have := hR a (by simp); omega) (fun r hr => hR r (by simp [hr]))
  exact go R 0 (Nat.zero_le _) h
/-- a cell in its column, with the gap ahead of it -/
def cellT (right : Nat → Bool) (W : Nat → Nat) (c : Nat) (x : Tx) : Tx :=
  (if c = 0 then [] else bl 2) ++ (if right c then bl (W c - x.length) ++ x else x ++ bl (W c - x.length))
theorem cellT_len (right : Nat → Bool) (W : Nat → Nat) (c : Nat) (x : Tx) (h : x.length ≤ W c) : (cellT right W c x).length = (if c = 0 then 0 else 2) + W c := by
  unfold cellT
  rw [List.length_append]
  generalize right c = q
  by_cases hc : c = 0
  · rw [if_pos hc, if_pos hc]; cases q <;> simp [bl_len] <;> omega
  · rw [if_neg hc, if_neg hc]; cases q <;> simp [bl_len] <;> omega
/-- the first k cells of a row, one behind the other -/
def joinT (right : Nat → Bool) (W : Nat → Nat) (r : List Tx) : Nat → Tx
  | 0 => []
  | k + 1 => joinT right W r k ++ cellT right W k (r.getD k [])
theorem joinT_len (right : Nat → Bool) (W : Nat → Nat) (r : List Tx) (M : Nat) (h : ∀ c, (r.getD c []).length ≤ W c) (hM : ∀ c, W c ≤ M) (k : Nat) : (joinT right W r k).length ≤ k * (M + 2) := by
  induction k with
  | zero => simp [joinT]
  | succ k ih =>
    rw [joinT, List.length_append, cellT_len _ _ _ _ (h k), Nat.succ_mul]
    have := hM k
    split <;> omega
/-- a row's line, without its end -/
def lineT (right : Nat → Bool) (W : Nat → Nat) (r : List Tx) : Tx := strip (joinT right W r r.length)
/-- what is owed behind the first k cells -/
def owedT (right : Nat → Bool) (W : Nat → Nat) (r : List Tx) (k : Nat) : Nat := (joinT right W r k).length - (strip (joinT right W r k)).length
theorem owed_back (right : Nat → Bool) (W : Nat → Nat) (r : List Tx) (k : Nat) : strip (joinT right W r k) ++ bl (owedT right W r k) = joinT right W r k := strip_back _
/-- a cell with something to be seen: it stands behind what is owed -/
theorem step_seen (right : Nat → Bool) (W : Nat → Nat) (r : List Tx) (k : Nat) (x : Tx) (hx : r.getD k [] = x) (hw : x.length ≤ W k) (hs : strip x ≠ []) :
    strip (joinT right W r (k + 1)) = strip (joinT right W r k) ++ bl (owedT right W r k + (if k = 0 then 0 else 2) + (if right k then W k - x.length else 0)) ++ strip x ∧
    owedT right W r (k + 1) = x.length - (strip x).length + (if right k then 0 else W k - x.length) := by
  have hle := strip_le x
  have e1 : strip (joinT right W r (k + 1)) = strip (joinT right W r k) ++ bl (owedT right W r k + (if k = 0 then 0 else 2) + (if right k then W k - x.length else 0)) ++ strip x := by
    rw [joinT, hx]
    have hc : cellT right W k x = bl ((if k = 0 then 0 else 2) + (if right k then W k - x.length else 0)) ++ (x ++ bl (if right k then 0 else W k - x.length)) := by
      unfold cellT
      rw [← bl_add]
      generalize right k = q
      by_cases hk : k = 0
      · rw [if_pos hk, if_pos hk]; cases q <;> simp [bl, List.append_assoc]
      · rw [if_neg hk, if_neg hk]; cases q <;> simp [bl, List.append_assoc]
    rw [hc, ← owed_back right W r k, List.append_assoc, ← List.append_assoc (bl (owedT right W r k)), bl_add, ← List.append_assoc, ← List.append_assoc, strip_bl, List.append_assoc, ← List.append_assoc, strip_over _ _ hs]
    rw [owed_back, Nat.add_assoc]
  refine ⟨e1, ?_⟩
  have hlen : (joinT right W r (k + 1)).length = (joinT right W r k).length + ((if k = 0 then 0 else 2) + W k) := by rw [joinT, List.length_append, hx, cellT_len _ _ _ _ hw]
  have h0 := congrArg List.length (owed_back right W r k)
  rw [List.length_append, bl_len] at h0
  unfold owedT
  rw [hlen, e1]
  simp only [List.length_append, bl_len]
  by_cases hr : right k
  · rw [if_pos hr, if_pos hr]; omega
  · rw [if_neg hr, if_neg hr]; omega
/-- a cell of blanks alone: more is owed -/
theorem step_none (right : Nat → Bool) (W : Nat → Nat) (r : List Tx) (k : Nat) (x : Tx) (hx : r.getD k [] = x) (hw : x.length ≤ W k) (hs : strip x = []) :
    strip (joinT right W r (k + 1)) = strip (joinT right W r k) ∧ owedT right W r (k + 1) = owedT right W r k + (if k = 0 then 0 else 2) + W k := by
  have e1 : strip (joinT right W r (k + 1)) = strip (joinT right W r k) := by
    rw [joinT, hx]
    refine strip_none _ _ ?_
    unfold cellT
    have hb : x = bl x.length := by
      have := strip_back x
      rw [hs, List.nil_append] at this
      simpa using this.symm
    have : (if k = 0 then [] else bl 2) ++ (if right k then bl (W k - x.length) ++ x else x ++ bl (W k - x.length)) = bl ((if k = 0 then 0 else 2) + (W k - x.length + x.length)) := by
      conv => lhs; rw [hb]
      rw [bl_len, ← bl_add]
      generalize right k = q
      by_cases hk : k = 0
      · rw [if_pos hk, if_pos hk]; cases q <;> simp [bl_add, bl_zero, Nat.add_comm]
      · rw [if_neg hk, if_neg hk]; cases q <;> simp [bl_add, bl_zero, Nat.add_comm]
    rw [this]
    exact (strip_bl [] _).trans rfl
  refine ⟨e1, ?_⟩
  have h0 := congrArg List.length (owed_back right W r k)
  rw [List.length_append, bl_len] at h0
  unfold owedT
  rw [e1, joinT, List.length_append, hx, cellT_len _ _ _ _ hw]
  have := strip_le (joinT right W r k)
  omega
/-- rows' lines -/
def linesT (right : Nat → Bool) (W : Nat → Nat) : List (List Tx) → Tx
  | [] => []
  | r :: R => lineT right W r ++ [10] ++ linesT right W R
theorem linesT_app (right : Nat → Bool) (W : Nat → Nat) (A B : List (List Tx)) : linesT right W (A ++ B) = linesT right W A ++ linesT right W B := by
  induction A with
  | nil => rfl
  | cons a A ih => rw [List.cons_append, linesT, linesT, ih]; simp [List.append_assoc]
theorem linesT_take (right : Nat → Bool) (W : Nat → Nat) (R : List (List Tx)) (k : Nat) (r : List Tx) (h : R[k]? = some r) : linesT right W (R.take (k + 1)) = linesT right W (R.take k) ++ lineT right W r ++ [10] := by
  have hk : k < R.length := by
    by_cases hk : k < R.length
    · exact hk
    · rw [List.getElem?_eq_none (by omega)] at h; cases h
  rw [List.take_succ_eq_append_getElem hk, linesT_app, linesT]
  rw [List.getElem?_eq_getElem hk] at h
  rw [Option.some.inj h]
  simp [linesT, List.append_assoc]
/-- rows of cells as a text -/
def gridT (right : Nat → Bool) (R : List (List Tx)) : Tx := linesT right (wid R) R
theorem line_len {right : Nat → Bool} {R : List (List Tx)} {r : List Tx} (hr : r ∈ R) {M N : Nat} (hM : ∀ c, wid R c ≤ M) (hN : r.length ≤ N) : (lineT right (wid R) r).length ≤ N * (M + 2) := by
  refine Nat.le_trans (strip_le _) (Nat.le_trans (joinT_len right (wid R) r M (fun c => wid_ge hr c) hM _) (Nat.mul_le_mul_right _ hN))
theorem lines_len {right : Nat → Bool} {R : List (List Tx)} {M N : Nat} (hM : ∀ c, wid R c ≤ M) (hN : ∀ r ∈ R, r.length ≤ N) : ∀ (A : List (List Tx)), (∀ r ∈ A, r ∈ R) → (linesT right (wid R) A).length ≤ A.length * (N * (M + 2) + 1)
  | [], _ => by simp [linesT]
  | r :: A, h => by
    have h1 := line_len (right := right) (h r (by simp)) hM (hN r (h r (by simp)))
    have h2 := lines_len (right := right) hM hN A (fun x hx => h x (by simp [hx]))
    have e : (r :: A).length * (N * (M + 2) + 1) = A.length * (N * (M + 2) + 1) + (N * (M + 2) + 1) := by rw [List.length_cons, Nat.succ_mul]
    rw [linesT, List.length_append, List.length_append, e, List.length_singleton]
    omega
end Go.Proofs.YtcafhmlpmbkhkaaGreatDoor
/- The grid: its rows in memory; newGrid 44, add 45. -/
namespace Go.Proofs.YtcafhmlpmbkhkaaGreatDoor
open Go Go.Shelf Go.ChangeShapes Go.WideShapes Go.ChangeAt Go.RowKit Go.Maps
set_option linter.unusedVariables false
set_option linter.unusedSimpArgs false
/-- a text in memory -/
def txB (x : Tx) : ByteArray := ⟨x.toArray⟩
theorem txB_len (x : Tx) : (txB x).size = x.length := by show x.toArray.size = _; simp
/-- texts -/
def kT : Kd Tx := ⟨fun x => [.string (txB x)], 1, 93, 9, 16⟩
theorem kT_ok : KdOK kT := kd_ok (fun _ => rfl) (by decide) (fun x u hu => by simp [kT] at hu; subst hu; rfl) Tryz.underlying93 (z := .string ⟨#[]⟩) (by kernel_rfl) rfl (by decide)
/-- lists of texts, where they lie -/
structure Sl where
  p : Option Addr
  n : Nat
  c : Nat
def kS : Kd Sl := ⟨fun s => [.slice s.p s.n s.c], 1, 94, 93, 24⟩
theorem kS_ok : KdOK kS := kd_ok (fun _ => rfl) (by decide) (fun x u hu => by simp [kS] at hu; subst hu; rfl) Tryz.underlying94 (z := .slice none 0 0) (by kernel_rfl) rfl (by decide)
/-- sides -/
def kG : Kd Int := ⟨fun x => [.int .i64 x], 1, 110, 86, 8⟩
theorem kG_ok : KdOK kG := kd_ok (fun _ => rfl) (by decide) (fun x u hu => by simp [kG] at hu; subst hu; rfl) Tryz.underlying110 (z := .int .i64 0) (by kernel_rfl) rfl (by decide)
/-- a list that shows a row's texts, in a block of texts -/
structure RowIs (W : World) (s : Sl) (r : List Tx) : Prop where
  n : s.n = r.length
  c : s.p = none → s.c = 0
  lies : Lies kT W s.p r
  blk : ∀ a, s.p = some a → ∃ (ys : Array Value) (f : Nat × Nat), W.heap[a.block]? = some (Obj.cells ys 9 f)
/-- what a call on a grid leaves as it was: all that stands below B, and whatever is neither a grid nor a row of lists -/
structure Gd (B : Nat) (W W' : World) : Prop where
  bel : Below B W W'
  kept : ∀ (k : Nat) (ys : Array Value) (t : TypeId) (f : Nat × Nat), W.heap[k]? = some (Obj.cells ys t f) → t ≠ 192 → t ≠ 93 → W'.heap[k]? = W.heap[k]?
theorem Gd.refl (B : Nat) (W : World) : Gd B W W := ⟨Below.refl _ _, fun _ _ _ _ _ _ _ => rfl⟩
theorem Gd.trans {B : Nat} {W X Y : World} (h : Gd B W X) (k : Gd B X Y) : Gd B W Y :=
  ⟨h.bel.trans k.bel, fun q ys t f hq h1 h2 => by
    have e := h.kept q ys t f hq h1 h2
    exact (k.kept q ys t f (e.trans hq) h1 h2).trans e⟩
theorem Gd.of_below {B : Nat} {W W' : World} (h : Below W.heap.size W W') (hB : B ≤ W.heap.size) : Gd B W W' :=
  ⟨h.mono hB, fun k ys t f hk _ _ => h.block k (Array.getElem?_eq_some_iff.1 hk).1⟩
theorem Gd.mono {B C : Nat} {W W' : World} (h : Gd B W W') (hC : C ≤ B) : Gd C W W' := ⟨h.bel.mono hC, h.kept⟩
theorem RowIs.gd {B : Nat} {W W' : World} {s : Sl} {r : List Tx} (h : RowIs W s r) (g : Gd B W W') : RowIs W' s r := by
  refine ⟨h.n, h.c, ?_, fun a ha => ?_⟩
  · cases hp : s.p with
    | none => have := h.lies; rw [hp] at this; rw [this.1 rfl]; exact Lies.nil _ _
    | some a =>
      refine ⟨(fun e => by cases e), fun k hk => ?_⟩
      have hl := h.lies
      rw [hp] at hl
      obtain ⟨b, off, e, hlt, hr⟩ := hl.2 k hk
      obtain ⟨ys, f, hb⟩ := h.blk a hp
      cases e
      exact ⟨b, off, rfl, Nat.lt_of_lt_of_le hlt g.bel.size, fun j u hu => (World.cell?_of_block (a := ⟨b, off + k * kT.s + j, none⟩) (g.kept b ys 9 f hb (by decide) (by decide))).trans (hr j u hu)⟩
  · obtain ⟨ys, f, hb⟩ := h.blk a ha
    exact ⟨ys, f, (g.kept _ ys 9 f hb (by decide) (by decide)).trans hb⟩
/-- a grid: its sides, its rows; all its blocks are from B on -/
structure GrA (B : Nat) (W : World) (d : Nat) (ps : Option Addr) (cs : Nat) (S : List Int) (pr : Option Addr) (cr : Nat) (L : List Sl) (R : List (List Tx)) : Prop where
  low : B ≤ d
  cell : W.heap[d]? = some (.cells #[.slice ps S.length cs, .slice pr R.length cr] 192 (0, 0))
  side : Lies kG W ps S
  sblk : ∀ a, ps = some a → ∃ (ys : Array Value) (f : Nat × Nat), W.heap[a.block]? = some (Obj.cells ys 86 f)
  own : W.ownsRow B 93 1 (.slice pr R.length cr) R.length (kS.flat L)
  len : L.length = R.length
  row : ∀ (k : Nat) s r, L[k]? = some s → R[k]? = some r → RowIs W s r
/-- a grid with these sides and rows -/
def Gr (B : Nat) (W : World) (d : Nat) (S : List Int) (R : List (List Tx)) : Prop := ∃ ps cs pr cr L, GrA B W d ps cs S pr cr L R
theorem not_own {W : World} {B e s n k t : Nat} {v : Value} {xs : List Value} {ys : Array Value} {f : Nat × Nat} (h : W.ownsRow B e s v n xs) (hk : W.heap[k]? = some (Obj.cells ys t f)) (ht : t ≠ e) : v.ownBlock ≠ some k := fun hv => by
  rcases h.2 with ⟨e1, h2⟩ | ⟨g, cap, cur, e1, hB, hh, h3⟩
  · rw [e1] at hv; cases hv
  · rw [e1] at hv
    have e2 : g = k := Option.some.inj hv
    subst e2
    rw [hk] at hh
    injection hh with hh
    injection hh with _ h5 _
    exact ht h5
theorem GrA.gd {B : Nat} {W W' : World} {d : Nat} {ps : Option Addr} {cs : Nat} {S : List Int} {pr : Option Addr} {cr : Nat} {L : List Sl} {R : List (List Tx)} (h : GrA B W d ps cs S pr cr L R) (hb : Below W.heap.size W W') : GrA B W' d ps cs S pr cr L R :=
  ⟨h.low, (hb.block d (Array.getElem?_eq_some_iff.1 h.cell).1).trans h.cell, h.side.below hb, fun a ha => by
    obtain ⟨ys, f, hy⟩ := h.sblk a ha
    exact ⟨ys, f, (hb.block _ (Array.getElem?_eq_some_iff.1 hy).1).trans hy⟩, own_below h.own hb, h.len, fun k s r hs hr => (h.row k s r hs hr).gd (Gd.of_below (B := 0) hb (Nat.zero_le _))⟩
theorem Gr.below {B : Nat} {W W' : World} {d : Nat} {S : List Int} {R : List (List Tx)} (h : Gr B W d S R) (hb : Below W.heap.size W W') : Gr B W' d S R := by
  obtain ⟨ps, cs, pr, cr, L, h⟩ := h
  exact ⟨ps, cs, pr, cr, L, h.gd hb⟩
theorem heap_set1 {w : World} {b : Nat} {x0 x1 v : Value} {t : TypeId} (h : w.heap[b]? = some (.cells #[x0, x1] t (0, 0))) : (w.setCell ⟨b, 1, none⟩ v).heap[b]? = some (.cells #[x0, v] t (0, 0)) := by
  simp [World.setCell, Array.getElem?_modify, h]
theorem heap_new (w : World) (o : Obj) : (w.alloc o).heap[w.heap.size]? = some o := by
  show (w.heap.push o)[w.heap.size]? = _
  simp
theorem cell_at {W : World} {b i : Nat} {xs : Array Value} {t : TypeId} {f : Nat × Nat} (h : W.heap[b]? = some (.cells xs t f)) : W.cell? ⟨b, i, none⟩ = xs[i]? := by simp [World.cell?, h]
theorem froz_at {W : World} {b i : Nat} {xs : Array Value} {t : TypeId} (h : W.heap[b]? = some (.cells xs t (0, 0))) : W.frozen? ⟨b, i, none⟩ = false := by simp [World.frozen?, h]
/-- what add leaves -/
def AddOut (B : Nat) (W : World) (d : Nat) (S : List Int) (R : List (List Tx)) (r : List Tx) (e : Ending) (w' : World) : Prop := (∃ v, e = .returned v) ∧ Gr B w' d S (R ++ [r]) ∧ Gd B W w'
set_option maxRecDepth 100000 in
set_option maxHeartbeats 4000000 in
theorem add_any {B : Nat} {W : World} {d : Nat} {S : List Int} {R : List (List Tx)} (h0 : Gr B W d S R) {p : Option Addr} {n c : Nat} {r : List Tx} (hr : RowIs W ⟨p, n, c⟩ r) (hn : R.length + 1 ≤ 1099511627776) :
    Calls Tryz.prog 45 #[.pointer (some ⟨d, 0, none⟩), .slice p n c] W (AddOut B W d S R r) := by
  obtain ⟨ps, cs, pr, cr, L, h⟩ := h0
  have hdlt : d < W.heap.size := (Array.getElem?_eq_some_iff.1 h.cell).1
  obtain ⟨O, hO⟩ : ∃ O, O = Obj.cells #[.slice p n c] 93 := ⟨_, rfl⟩
  have b0 : Below W.heap.size W (W.alloc O) := bal (Below.refl _ _) _
  have hBW : B ≤ W.heap.size := Nat.le_trans h.low (Nat.le_of_lt hdlt)
  obtain ⟨p', c', w1, r1, o1, b1, k1, q1⟩ := run_app kS_ok (L := L) (M := [(⟨p, n, c⟩ : Sl)]) 94 (h.own.alloc O) (Nat.le_trans hBW b0.size) (some ⟨W.heap.size, 0, none⟩) 1 (fun h => by cases h) (by rw [hO]; exact one_lies W (⟨p, n, c⟩ : Sl) 93 _ rfl) hn
  simp only [List.length_singleton] at r1 o1 q1
  have hnd : (Value.slice pr R.length cr).ownBlock ≠ some d := not_own h.own h.cell (by decide)
  have kd : w1.heap[d]? = some (.cells #[.slice ps S.length cs, .slice pr R.length cr] 192 (0, 0)) := (k1 d (Nat.lt_of_lt_of_le hdlt b0.size) hnd).trans ((b0.block d hdlt).trans h.cell)
  have c0 : W.cell? ⟨d, 1, none⟩ = some (.slice pr R.length cr) := by rw [cell_at h.cell]; rfl
  have ca : (W.alloc O).cell? ⟨d, 1, none⟩ = some (.slice pr R.length cr) := by rw [cell_at ((b0.block d hdlt).trans h.cell)]; rfl
  have c1 : w1.cell? ⟨d, 1, none⟩ = some (.slice pr R.length cr) := by rw [cell_at kd]; rfl
  have f1 : w1.frozen? ⟨d, 1, none⟩ = false := froz_at kd
  have gdd : Gd B W (w1.setCell ⟨d, 1, none⟩ (.slice p' (R.length + 1) c')) := by
    refine ⟨((b0.mono hBW).trans b1).trans ((Below.refl B w1).setCell (p := ⟨d, 1, none⟩) h.low _), fun k ys t f hk h1 h2 => ?_⟩
    have hkl := (Array.getElem?_eq_some_iff.1 hk).1
    refine (Below.heap_setCell _ _ _ _ (fun e => ?_)).trans ((k1 k (Nat.lt_of_lt_of_le hkl b0.size) (not_own h.own hk h2)).trans (b0.block k hkl))
    subst e
    rw [h.cell] at hk
    injection hk with hk
    injection hk with _ h5 _
    exact h1 h5.symm
  have HF : Hid (Gr B (w1.setCell ⟨d, 1, none⟩ (.slice p' (R.length + 1) c')) d S (R ++ [r]) ∧ Gd B W (w1.setCell ⟨d, 1, none⟩ (.slice p' (R.length + 1) c'))) := by
    refine ⟨⟨ps, cs, p', c', L ++ [(⟨p, n, c⟩ : Sl)], h.low, ?_, ?_, fun a ha => ?_, ?_, by simp [h.len], fun k s r' hs hr' => ?_⟩, gdd⟩
    · rw [List.length_append, List.length_singleton]
      exact heap_set1 kd
    · cases hp : ps with
      | none => have := h.side; rw [hp] at this; rw [this.1 rfl]; exact Lies.nil _ _
      | some a =>
        have hs := h.side
        rw [hp] at hs
        refine ⟨(fun e => by cases e), fun k hk => ?_⟩
        obtain ⟨b, off, e, hlt, hrr⟩ := hs.2 k hk
        obtain ⟨ys, f, hy⟩ := h.sblk a hp
        cases e
        exact ⟨b, off, rfl, Nat.lt_of_lt_of_le hlt gdd.bel.size, fun j u hu => (World.cell?_of_block (a := ⟨b, off + k * kG.s + j, none⟩) (gdd.kept b ys 86 f hy (by decide) (by decide))).trans (hrr j u hu)⟩
    · obtain ⟨ys, f, hy⟩ := h.sblk a ha
      exact ⟨ys, f, (gdd.kept _ ys 86 f hy (by decide) (by decide)).trans hy⟩
    · rw [List.length_append, List.length_singleton]
      refine row_keep o1 fun g hg => Below.heap_setCell _ _ _ _ (fun e => ?_)
      subst e
      exact not_own o1 kd (by decide) hg
    · by_cases hk : k < R.length
      · rw [List.getElem?_append_left (by rw [h.len]; exact hk)] at hs
        rw [List.getElem?_append_left hk] at hr'
        exact (h.row k s r' hs hr').gd gdd
      · have hk2 : k = R.length := by
          have := (List.getElem?_eq_some_iff.1 hr').1
          rw [List.length_append, List.length_singleton] at this
          omega
        subst hk2
        rw [List.getElem?_append_right (Nat.le_refl _), Nat.sub_self] at hr'
        rw [List.getElem?_append_right (by rw [h.len]; exact Nat.le_refl _), h.len, Nat.sub_self] at hs
        cases hs
        cases hr'
        exact hr.gd gdd
  have HR := hide r1
  clear r1 o1 b1 k1 q1 hnd kd gdd h hr hn b0 hBW hdlt
  subst hO
  go_enter Tryz.func45, Tryz.ntmps45
  go_wp2_with (at_builtin; refine wpList_append_run rfl _ _ 94 rfl _ _ _ _ rfl rfl (unhide HR) ?_)
  go_end0
  exact ⟨⟨_, rfl⟩, unhide HF⟩
/-- what newGrid hands back -/
def NewOut (W : World) (S : List Int) (e : Ending) (w' : World) : Prop := ∃ d, e = .returned (.pointer (some ⟨d, 0, none⟩)) ∧ Gr W.heap.size w' d S [] ∧ Below W.heap.size W w'
set_option maxRecDepth 100000 in
set_option maxHeartbeats 4000000 in
theorem newGrid_any {W : World} {ps : Option Addr} {cs : Nat} {S : List Int} (hS : Lies kG W ps S) (hb : ∀ a, ps = some a → ∃ (ys : Array Value) (f : Nat × Nat), W.heap[a.block]? = some (Obj.cells ys 86 f)) :
    Calls Tryz.prog 44 #[.slice ps S.length cs] W (NewOut W S) := by
  have b0 : Below W.heap.size W (W.alloc (.cells #[.slice ps S.length cs, .slice none 0 0] 192)) := bal (Below.refl _ _) _
  have HF : Hid (Gr W.heap.size (W.alloc (.cells #[.slice ps S.length cs, .slice none 0 0] 192)) W.heap.size S []) :=
    ⟨ps, cs, none, 0, [], Nat.le_refl _, heap_new _ _, hS.below b0, fun a ha => by
      obtain ⟨ys, f, hy⟩ := hb a ha
      exact ⟨ys, f, (b0.block _ (Array.getElem?_eq_some_iff.1 hy).1).trans hy⟩, World.ownsRow_nil _ _ _ _, rfl, fun k s r hs => by simp at hs⟩
  have HB := hide b0
  clear hS hb b0
  go_enter Tryz.func44, Tryz.ntmps44
  go_wp2_with fail
  go_ret
  exact ⟨_, rfl, unhide HF, unhide HB⟩
end Go.Proofs.YtcafhmlpmbkhkaaGreatDoor
