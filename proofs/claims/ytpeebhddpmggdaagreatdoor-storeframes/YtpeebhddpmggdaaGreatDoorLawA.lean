/- StoreFrames: what its walk uses. -/
import Derived.Test.YtpeebhddpmggdaaGreatDoorPagO
import Derived.Laws.BytesArg
namespace Go.Proofs.YtpeebhddpmggdaaGreatDoor
open Go Go.ChangeShapes Go.WideShapes Go.ChangeAt Go.RowKit
set_option linter.unusedVariables false
/-- what Frame hands back, at every record -/
structure FrAt (f : Nat → Nat) (n : Nat) (W : World) (v : Value) (nb : Nat) (er : Int) (w' : World) : Prop where
  own : w'.ownsRow W.heap.size 5 1 v nb (bcells (frB f n) nb)
  er' : er = if n ≤ 2048 then 0 else 3
  nb' : nb = if n ≤ 2048 then 8 + n else 0
  pos : v = .slice none 0 0 ∨ 0 < nb
  le : nb ≤ 4096
  bel : Below W.heap.size W w'
theorem frAt {f : Nat → Nat} {n : Nat} {W w' : World} {e : Ending} (h : FOut f n W e w') : ∃ v nb er, e = .returned (.tuple #[v, .int .i64 er]) ∧ FrAt f n W v nb er w' := by
  obtain ⟨h1, h2, h3⟩ := h
  by_cases hn : n ≤ 2048
  · obtain ⟨v, rfl, hv⟩ := h2 hn
    exact ⟨v, 8 + n, 0, rfl, hv, by rw [if_pos hn], by rw [if_pos hn], .inr (by omega), by omega, h3⟩
  · exact ⟨.slice none 0 0, 0, 3, h1 (by omega), World.ownsRow_nil _ _ _ _, by rw [if_neg hn], by rw [if_neg hn], .inl rfl, by omega, h3⟩
theorem FrAt.lt {f : Nat → Nat} {n nb : Nat} {W w' : World} {v : Value} {er : Int} (h : FrAt f n W v nb er w') : ∀ q, v.ownBlock = some q → W.heap.size ≤ q ∧ q < w'.heap.size := h.own.lt
/-- the same record, the same answer -/
theorem FrAt.same {f : Nat → Nat} {n nb nb' : Nat} {W w' W1 w1 : World} {v v' : Value} {er er' : Int} (h : FrAt f n W v nb er w') (h' : FrAt f n W1 v' nb' er' w1) : nb' = nb ∧ er' = er := ⟨h'.nb'.trans h.nb'.symm, h'.er'.trans h.er'.symm⟩
/-- bytes as a text -/
def txtB (f : Nat → Nat) (n : Nat) : ByteArray := strOfNums ((List.range n).map fun i => (f i : Int))
theorem conv_own {w : World} {B n : Nat} {v : Value} {f : Nat → Nat} (h : w.ownsRow B 5 1 v n (bcells f n)) : (convert 27 9 v).run Tryz.prog w = .ok (.string (txtB f n)) w := by
  rcases h.2 with ⟨h1, h2⟩ | ⟨g, cap, cur, rfl, hb, _⟩
  · subst h1 h2
    exact run_convert_bytes_nil (P := Tryz.prog) w 27 5 Tryz.underlying27 Tryz.underlying5 0 0 9 Tryz.underlying9
  · refine run_convert_bytes_arg (P := Tryz.prog) w 27 5 Tryz.underlying27 Tryz.underlying5 g 0 n cap _ (by simp) (fun i hi => ?_) 9 Tryz.underlying9
    rw [Nat.zero_add, h.cellAt i (by omega), bcells_get _ _ _ hi]
    simp [List.getD, hi]
/-- append([]byte{}, l...) -/
theorem wpList_append_copy {w : World} {ops : Array Oper} {rest : List Oper} {o : Oper} {a : Act} {Q : Exit → Act → World → Prop} (hgd : o.guard = none) (s x : Operand)
    (ho : o.op = .call { callee := .builtin .append, args := #[s, x], argTypes := #[27, 27] })
    (base : Nat) (v : Value) (hs : a.eval s = v) (hown : w.ownsRow base 5 1 v 0 []) (u : Value) (m : Nat) (g : Nat → Nat) (hx : a.eval x = u) (hu : BLies g u m w) (hm : m ≤ 140737488351232) (hbase : base ≤ w.heap.size)
    (h : ∀ v' w', w'.ownsRow base 5 1 v' m (bcells g m) → w.grownBy w' v.ownBlock → wpList Tryz.prog ops Q rest (a.put o.dst v') w') : wpList Tryz.prog ops Q (o :: rest) a w := by
  obtain ⟨i0, hi, hz0, hz1, hz2⟩ := info_parts info5
  rcases hu with ⟨rfl, rfl⟩ | ⟨b, off, cap, rfl, h2, h3⟩
  · exact wpList_append_own_none hgd s x 27 ho base 5 i0 1 Tryz.underlying27 hi v 0 [] hs hown hx (h v w hown ⟨rfl, rfl, rfl, Nat.le_refl _, fun _ _ _ => rfl⟩)
  · refine wpList_append_own _ hgd s x 27 ho base 5 i0 (.int .u8 0) 1 1 Tryz.underlying27 hi hz0 hz1 hz2 rfl (by decide) v 0 [] hs hown ⟨b, off, none⟩ m cap (bcells g m) hx (by rw [bcells_len]; omega) (fun j u hj => ?_) (bcells_one _ _) (by unfold maxLen; omega) (by omega) hbase (fun v' w' h4 h5 _ => h v' w' ?_ h5)
    · obtain ⟨h4, h5⟩ := bcells_get' hj
      rw [h5, Addr.add_mid]
      exact h3 j h4
    · rw [Nat.zero_add, List.nil_append] at h4
      exact h4
def noPg : Nat → Pg := fun _ => ⟨.slice none 0 0, 0, .slice none 0 0, .slice none 0 0, 0, 0, fun _ => 0⟩
theorem book_alloc (w : World) : BookAt (w.alloc (.cells #[.int .i64 0, .slice none 0 0, .slice none 0 0, .slice none 0 0, .slice none 0 0, .slice none 0 0, .slice none 0 0, .slice none 0 0, .slice none 0 0, .slice none 0 0, .slice none 0 0, .slice none 0 0, .slice none 0 0, .slice none 0 0, .slice none 0 0, .slice none 0 0, .slice none 0 0, .slice none 0 0, .slice none 0 0, .slice none 0 0, .slice none 0 0] 86)) w.heap.size 0 0 (.slice none 0 0) noPg := by
  have hc : ∀ j, (w.alloc (.cells #[.int .i64 0, .slice none 0 0, .slice none 0 0, .slice none 0 0, .slice none 0 0, .slice none 0 0, .slice none 0 0, .slice none 0 0, .slice none 0 0, .slice none 0 0, .slice none 0 0, .slice none 0 0, .slice none 0 0, .slice none 0 0, .slice none 0 0, .slice none 0 0, .slice none 0 0, .slice none 0 0, .slice none 0 0, .slice none 0 0, .slice none 0 0] 86)).cell? ⟨w.heap.size, j, none⟩ = (#[.int .i64 0, .slice none 0 0, .slice none 0 0, .slice none 0 0, .slice none 0 0, .slice none 0 0, .slice none 0 0, .slice none 0 0, .slice none 0 0, .slice none 0 0, .slice none 0 0, .slice none 0 0, .slice none 0 0, .slice none 0 0, .slice none 0 0, .slice none 0 0, .slice none 0 0, .slice none 0 0, .slice none 0 0, .slice none 0 0, .slice none 0 0] : Array Value)[j]? := fun j => World.cell?_alloc_mark _ _ _ _ j
  have ha : ∀ j, 1 ≤ j → j ≤ 20 → (#[.int .i64 0, .slice none 0 0, .slice none 0 0, .slice none 0 0, .slice none 0 0, .slice none 0 0, .slice none 0 0, .slice none 0 0, .slice none 0 0, .slice none 0 0, .slice none 0 0, .slice none 0 0, .slice none 0 0, .slice none 0 0, .slice none 0 0, .slice none 0 0, .slice none 0 0, .slice none 0 0, .slice none 0 0, .slice none 0 0, .slice none 0 0] : Array Value)[j]? = some (.slice none 0 0) := fun j h1 h2 => match j, h1, h2 with
    | 1, _, _ => rfl
    | 2, _, _ => rfl
    | 3, _, _ => rfl
    | 4, _, _ => rfl
    | 5, _, _ => rfl
    | 6, _, _ => rfl
    | 7, _, _ => rfl
    | 8, _, _ => rfl
    | 9, _, _ => rfl
    | 10, _, _ => rfl
    | 11, _, _ => rfl
    | 12, _, _ => rfl
    | 13, _, _ => rfl
    | 14, _, _ => rfl
    | 15, _, _ => rfl
    | 16, _, _ => rfl
    | 17, _, _ => rfl
    | 18, _, _ => rfl
    | 19, _, _ => rfl
    | 20, _, _ => rfl
    | j + 21, _, h => by omega
  exact book_new noPg (hc 0) (fun j h1 h2 => (hc j).trans (ha j h1 h2)) (fun i => World.frozen?_alloc_at _ _ _ _ rfl)
/-- what a list more leaves below a bound -/
theorem More.below {w w' : World} {bk m k s B : Nat} {R L : Value} {p : Nat → Pg} (h : More w w' bk m k R p L s) (hb : B ≤ bk) (hB : B ≤ w.heap.size) (hR : ∀ q, R.ownBlock = some q → B ≤ q) (hL : ∀ q, L.ownBlock = some q → B ≤ q) : Below B w w' := by
  obtain ⟨_, _, _, _, _, _, hz, os, tp, ou, hblk⟩ := h
  exact ⟨os, tp, ou, hz, fun q hq => hblk q (by omega) (by omega) (fun e => by have := hR q e; omega) (fun e => by have := hL q e; omega)⟩
/-- the bytes while each is turned -/
def mixX (F : Nat → Nat) (j : Nat) : Nat → Nat := fun i => if i < j then F i ^^^ (i % 2 + 1) else F i
theorem mixX_lt {F : Nat → Nat} (hF : ∀ k, F k < 256) (j k : Nat) : mixX F j k < 256 := by
  unfold mixX
  split
  · have e : (256 : Nat) = 2 ^ 8 := by decide
    rw [e]
    exact Nat.xor_lt_two_pow (by have := hF k; omega) (by omega)
  · exact hF k
theorem mixX_set (F : Nat → Nat) (j N : Nat) (hj : j < N) : (bcells (mixX F j) N).set j (.int .u8 ((F j ^^^ (j % 2 + 1) : Nat) : Int)) = bcells (mixX F (j + 1)) N := by
  apply List.ext_getElem?
  intro i
  by_cases hi : i < N
  · by_cases e : i = j
    · subst e
      rw [List.getElem?_set_self (by rw [bcells_len]; exact hi), bcells_get _ _ _ hi]
      simp [mixX]
    · rw [List.getElem?_set_ne (fun h => e h.symm), bcells_get _ _ _ hi, bcells_get _ _ _ hi]
      have : i < j + 1 ↔ i < j := by omega
      simp only [mixX, this]
  · rw [List.getElem?_eq_none (by rw [List.length_set, bcells_len]; omega), List.getElem?_eq_none (by rw [bcells_len]; omega)]
theorem cat_lt256 {f g : Nat → Nat} {n : Nat} (hf : ∀ k, f k < 256) (hg : ∀ k, g k < 256) : ∀ k, cat f n g k < 256 := fun k => by
  unfold cat
  split
  · exact hf k
  · exact hg _
end Go.Proofs.YtpeebhddpmggdaaGreatDoor
