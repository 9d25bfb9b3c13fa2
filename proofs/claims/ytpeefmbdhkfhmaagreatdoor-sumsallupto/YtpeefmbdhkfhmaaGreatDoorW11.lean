import Derived.Test.YtpeefmbdhkfhmaaGreatDoorW10
import Derived.RangeFuncNested
import Derived.RangeFuncBound
import Derived.RangeFuncCalls
import Derived.RangeFuncLeaves
import Derived.RangeFuncBox
import Derived.RangeFuncWrites
import Derived.Shelf.Abstract
import Derived.OwnWalkIn
import Derived.TacticsInMore
import Derived.LoopNIn
import Derived.LoopIn
import Derived.RangeFuncOne
import Derived.RangeFuncStops
import Derived.Stop.RegionWithIn
import Derived.Shelf.SlIter.Collect
import GoSem.Claim
/- The document's Key, Memo, Tag, Name; names.IsAccount, IsRoot and the document's Root. -/
namespace Go.Proofs.YtpeefmbdhkfhmaaGreatDoor
open Go Go.ChangeShapes Go.WideShapes Go.ChangeAt Go.RowKit
set_option linter.unusedVariables false
/-- a tag byte by byte: the first one a letter -/
def tagI (s : ByteArray) (k : Nat) (c : Nat) : Bool := tagB c && (!decide (k = 0) || loB c)
set_option maxRecDepth 100000 in
set_option maxHeartbeats 4000000 in
set_option maxRecDepth 100000 in
set_option maxHeartbeats 4000000 in
set_option maxRecDepth 100000 in
set_option maxHeartbeats 4000000 in
theorem drop_byte {s : ByteArray} {k : Nat} (h : k < s.size) : s.data.toList.drop k = s[k] :: s.data.toList.drop (k + 1) := by
  have h' : k < s.data.toList.length := by simpa using h
  have e := List.drop_eq_getElem_cons h'
  rw [e]
  simp
  rfl
theorem nm_step (parts size : Nat) (c : UInt8) (l : List UInt8) : nm parts size (c :: l) = if c = 58 then (if size = 0 then false else nm (parts + 1) 0 l) else if (size = 0 ∧ upB c.toNat = false) ∨ partB c.toNat = false then false else if 16 < size + 1 then false else nm parts (size + 1) l := rfl
theorem spl_le : ∀ (l p : List UInt8), p ∈ spl l → p.length ≤ l.length
  | [], p, h => by simp [spl] at h; subst h; simp
  | c :: l, p, h => by
    by_cases hc : c = 58
    · rw [spl, if_pos hc] at h
      rcases List.mem_cons.1 h with h | h
      · subst h; simp
      · have := spl_le l p h; simp; omega
    · obtain ⟨a, t, e⟩ := spl_ne l
      rw [spl_cons hc e] at h
      have ha := spl_le l a (by rw [e]; exact List.mem_cons_self)
      rcases List.mem_cons.1 h with h | h
      · subst h; simp; omega
      · have := spl_le l p (by rw [e]; exact List.mem_cons_of_mem _ h); simp; omega
set_option maxRecDepth 100000 in
set_option maxHeartbeats 4000000 in
theorem isAccount_any (s : ByteArray) (hs : s.size < 4611686018427387904) (w : World) : Calls Tryz.prog 163 #[.string s] w fun e w' => e = .returned (.bool (nameL s.data.toList)) ∧ Below w.heap.size w w' := by
  have d1 := hide (Tryz.strings_Count_one s 58 w)
  obtain ⟨c, hc⟩ : ∃ c, s.data.toList.count 58 = c := ⟨_, rfl⟩
  have hcb : Lib.countByte s.data.toList 58 = c := hc
  rw [hcb] at d1
  have hnm := hide (show nameL s.data.toList = (decide (s.data.toList.count 58 < 6) && (spl s.data.toList).all partL) from rfl)
  rw [hc] at hnm
  obtain ⟨xs, hxs⟩ : ∃ xs, xs = spl s.data.toList := ⟨_, rfl⟩
  have hlen : Hid (xs.length = c + 1) := by rw [hxs, spl_len, hc]; rfl
  have hsz : Hid (∀ k (hk : k < xs.length), (⟨(xs[k]).toArray⟩ : ByteArray).size ≤ 9223372036854775807) := fun k hk => by
    have h1 : xs[k] ∈ spl s.data.toList := by rw [← hxs]; exact List.getElem_mem hk
    have h2 := spl_le _ _ h1
    have h3 : s.data.toList.length = s.size := by simp
    have h4 : (⟨(xs[k]).toArray⟩ : ByteArray).size = (xs[k]).length := by simp [ByteArray.size]
    omega
  rw [← hxs] at hnm
  have hpl : ∀ l : List UInt8, partS ⟨l.toArray⟩ = partL l := fun l => partS_eq _
  have HPL := hide hpl
  clear hpl
  by_cases h6 : c < 6
  · have d2 := hide (split_any s hs c hc h6 w)
    rw [← hxs] at d2
    have i6 : ¬ (6 : Int) ≤ (c : Int) := by omega
    rw [decide_eq_true h6] at hnm
    clear hc hcb hxs
    go_enter Tryz.func163, Tryz.ntmps163
    go_wp2_with fail
    refine (unhide d1).mono ?_
    rintro e w1 ⟨rfl, hw⟩
    rw [hw]
    clear hw w1
    go_wp2_with fail
    refine (unhide d2).mono ?_
    rintro e w1 ⟨rfl, hb1, hce1⟩
    have B1 := hide hb1
    have hcell1 : Hid (∀ k (hk : k < xs.length), w1.cell? ⟨w.heap.size, k, none⟩ = some (.string ⟨(xs[k]).toArray⟩)) := fun k hk => by
      rw [hce1 k (by have := unhide hlen; omega)]
      simp [List.getD, hk]
    clear hb1 hce1
    go_wp2_with fail
    go_loopw [11, 4] (fun vi v4 wr => ∃ k : Nat, k ≤ c + 1 ∧ vi = .int .i64 k ∧ (∀ j (hj : j < xs.length), j < k → partL xs[j] = true) ∧ wr = w1) (fun i _ _ => c + 1 - (RowKit.intOf i).toNat)
    case atStart => exact ⟨0, by omega, rfl, fun j hj h => by omega, rfl⟩
    case round =>
      obtain ⟨k, hk, rfl, hd, rfl⟩ := hrel
      have H := hide hd
      clear hd
      have hl := unhide hlen
      by_cases hlt : k < c + 1
      · have hI : (k : Int) < (c : Int) + 1 := by omega
        have hI0 : (0 : Int) ≤ (k : Int) := by omega
        have hkx : k < xs.length := by omega
        have HK := hide hkx
        obtain ⟨X, hX, hce, dp⟩ : ∃ X, (⟨(xs[k]'hkx).toArray⟩ : ByteArray) = X ∧ wr.cell? ⟨w.heap.size, k, none⟩ = some (.string X) ∧ Hid (∀ W, Calls Tryz.prog 220 #[.string X] W fun e w' => e = .returned (.bool (partS X)) ∧ w' = W) := ⟨_, rfl, unhide hcell1 k hkx, isPart_any _ (unhide hsz k hkx)⟩
        have HX := hide hX
        have HPX : Hid (partS X = partL (xs[k]'hkx)) := by rw [← hX]; exact unhide HPL _
        clear hX hl
        by_cases hp : partS X = true
        · rw [hp] at dp HPX
          go_wp2_with fail
          refine (unhide dp wr).mono ?_
          rintro e w2 ⟨rfl, hw⟩
          rw [hw]
          clear hw w2
          go_wp2_with fail
          refine ⟨⟨k + 1, by omega, by go_num, ?_, trivial⟩, by simp [RowKit.intOf]; omega⟩
          intro j hj hjk
          by_cases e : j = k
          · subst e; exact (unhide HPX).symm
          · exact unhide H j hj (by omega)
        · have hp' : partS X = false := by simpa using hp
          rw [hp'] at dp HPX
          have hno : Hid (nameL s.data.toList = false) := by
            rw [unhide hnm]
            have : xs.all partL = false := List.all_eq_false.2 ⟨xs[k]'(unhide HK), List.getElem_mem _, by rw [← unhide HPX]; simp⟩
            rw [this]
            rfl
          go_wp2_with fail
          refine (unhide dp wr).mono ?_
          rintro e w2 ⟨rfl, hw⟩
          rw [hw]
          clear hw w2
          go_wp2_with fail
          go_ret
          exact ⟨by rw [unhide hno]; rfl, unhide B1⟩
      · have hkl : k = c + 1 := by omega
        have hI : ¬ (k : Int) < (c : Int) + 1 := by omega
        have hyes : Hid (nameL s.data.toList = true) := by
          rw [unhide hnm]
          have : xs.all partL = true := List.all_eq_true.2 fun x hx => by
            obtain ⟨i, hi, rfl⟩ := List.getElem_of_mem hx
            exact unhide H i hi (by omega)
          rw [this]
          rfl
        clear hkl hl
        go_wp2_with fail
        go_ret
        exact ⟨by rw [unhide hyes]; rfl, unhide B1⟩
  · have i6 : (6 : Int) ≤ (c : Int) := by omega
    rw [decide_eq_false h6] at hnm
    clear hc hcb hxs
    go_enter Tryz.func163, Tryz.ntmps163
    go_wp2_with fail
    refine (unhide d1).mono ?_
    rintro e w1 ⟨rfl, hw⟩
    rw [hw]
    clear hw w1
    go_wp2_with fail
    go_ret
    exact ⟨by rw [unhide hnm]; rfl, Below.refl _ _⟩
theorem root_index (l : List UInt8) : decide (0 ≤ Lib.indexByte l 58) = l.contains 58 := by
  induction l with
  | nil => rfl
  | cons a l ih =>
    have hg := Lib.indexByte_ge l 58
    rw [Lib.indexByte, List.contains_cons, ← ih]
    by_cases ha : a = 58
    · subst ha
      rfl
    · rw [if_neg (by simpa using ha)]
      have h2 : ((58 : UInt8) == a) = false := by simpa using fun e => ha e.symm
      rw [h2, Bool.false_or]
      by_cases h3 : Lib.indexByte l 58 = -1
      · rw [h3]; rfl
      · rw [if_neg (by simpa using h3)]
        have h4 : 0 ≤ Lib.indexByte l 58 := by omega
        have h5 : 0 ≤ Lib.indexByte l 58 + 1 := by omega
        rw [decide_eq_true h4, decide_eq_true h5]
/-- a name of one part -/
def rootS (s : ByteArray) : Bool := !s.data.toList.contains 58
theorem isRoot_any (s : ByteArray) (w : World) : Calls Tryz.prog 223 #[.string s] w fun e w' => e = .returned (.bool (rootS s)) ∧ w' = w := by
  have d := hide (Tryz.strings_Contains_one s 58 w)
  have e1 : decide (0 ≤ Lib.indexByte s.data.toList 58) = !rootS s := by
    rw [root_index, rootS, Bool.not_not]
  rw [e1] at d
  go_enter Tryz.func223, Tryz.ntmps223
  go_wp2_with fail
  refine (unhide d).mono ?_
  rintro e w1 ⟨rfl, hw⟩
  rw [hw]
  clear hw w1
  go_wp2_with fail
  go_ret
  exact ⟨by simp, rfl⟩
end Go.Proofs.YtpeefmbdhkfhmaaGreatDoor
/- chart: Good (6), the document's Good (7), Parent (10). -/
namespace Go.Proofs.YtpeefmbdhkfhmaaGreatDoor
open Go Go.ChangeShapes Go.WideShapes Go.ChangeAt Go.RowKit
set_option linter.unusedVariables false
set_option maxHeartbeats 1000000 in
theorem good_any (s : ByteArray) (hs : s.size < 4611686018427387904) (w : World) : Calls Tryz.prog 80 #[.string s] w fun e w' => e = .returned (.bool (nameL s.data.toList)) ∧ Below w.heap.size w w' := by
  have d := hide (isAccount_any s hs w)
  go_enter Tryz.func80, Tryz.ntmps80
  go_wp2_with fail
  refine (unhide d).mono ?_
  rintro e w1 ⟨rfl, hb⟩
  have HB := hide hb
  clear hb
  go_wp2_with fail
  go_ret
  exact ⟨rfl, unhide HB⟩
/-- the name above, and whether there is one -/
def parS (l : List UInt8) : ByteArray × Bool := if nameL l = true then (match ups l with | [] => (⟨#[]⟩, false) | p :: _ => (⟨p.toArray⟩, true)) else (⟨#[]⟩, false)
theorem ups_len_lt {s : ByteArray} {p : List UInt8} {t : List (List UInt8)} (h : ups s.data.toList = p :: t) : p.length < s.size := by
  by_cases hc : s.data.toList.contains 58 = true
  · obtain ⟨j, hj, _, hu, _⟩ := ups_some s hc
    rw [hu] at h
    injection h with h _
    rw [← h, List.length_take]
    omega
  · rw [ups_none _ (by simpa using hc)] at h
    cases h
set_option maxHeartbeats 2000000 in
theorem parent_any (s : ByteArray) (hs : s.size < 4611686018427387904) (w : World) : Calls Tryz.prog 166 #[.string s] w fun e w' => e = .returned (.tuple #[.string (parS s.data.toList).1, .bool (parS s.data.toList).2]) ∧ Below w.heap.size w w' := by
  have d := hide (good_any s hs w)
  by_cases hn : nameL s.data.toList = true
  · rw [hn] at d
    have dr := hide (isRoot_any s)
    by_cases hc : s.data.toList.contains 58 = true
    · obtain ⟨j, hj, hl, hu, hnn⟩ := ups_some s hc
      have hr : rootS s = false := by unfold rootS; rw [hc]; rfl
      rw [hr] at dr
      have dl := hide (fun W => Tryz.strings_LastIndex_one s ⟨#[58]⟩ rfl hs W)
      have e58 : (((⟨#[58]⟩ : ByteArray)[0]'(by decide)).toNat : Int) = 58 := rfl
      rw [e58, hl] at dl
      have hp : Hid (parS s.data.toList = (⟨(s.data.toList.take j).toArray⟩, true)) := by
        unfold parS
        rw [if_pos hn, hu]
        rfl
      have hjI : (j : Int) ≤ (s.size : Int) := by omega
      clear hn hc hl hu hnn hr e58
      go_enter Tryz.func166, Tryz.ntmps166
      go_wp2_with fail
      refine (unhide d).mono ?_
      rintro e w1 ⟨rfl, hb⟩
      have HB := hide hb
      clear hb
      go_wp2_with fail
      refine (unhide dr w1).mono ?_
      rintro e w2 ⟨rfl, hw⟩
      rw [hw]
      clear hw w2
      go_wp2_with fail
      refine (unhide dl w1).mono ?_
      rintro e w2 ⟨rfl, hw⟩
      rw [hw]
      clear hw w2
      go_wp2_with fail
      go_ret2
      rw [unhide hp, text_of (ext_take s j)]
      exact ⟨rfl, unhide HB⟩
    · have hc' : s.data.toList.contains 58 = false := by simpa using hc
      have hr : rootS s = true := by unfold rootS; rw [hc']; rfl
      rw [hr] at dr
      have hp : Hid (parS s.data.toList = (⟨#[]⟩, false)) := by
        unfold parS
        rw [if_pos hn, ups_none _ hc']
        rfl
      clear hn hc hc' hr
      go_enter Tryz.func166, Tryz.ntmps166
      go_wp2_with fail
      refine (unhide d).mono ?_
      rintro e w1 ⟨rfl, hb⟩
      have HB := hide hb
      clear hb
      go_wp2_with fail
      refine (unhide dr w1).mono ?_
      rintro e w2 ⟨rfl, hw⟩
      rw [hw]
      clear hw w2
      go_wp2_with fail
      go_ret2
      rw [unhide hp]
      exact ⟨rfl, unhide HB⟩
  · have hn' : nameL s.data.toList = false := by simpa using hn
    rw [hn'] at d
    have hp : Hid (parS s.data.toList = (⟨#[]⟩, false)) := by
      unfold parS
      rw [if_neg hn]
      rfl
    clear hn hn'
    go_enter Tryz.func166, Tryz.ntmps166
    go_wp2_with fail
    refine (unhide d).mono ?_
    rintro e w1 ⟨rfl, hb⟩
    have HB := hide hb
    clear hb
    go_wp2_with fail
    go_ret2
    rw [unhide hp]
    exact ⟨rfl, unhide HB⟩
end Go.Proofs.YtpeefmbdhkfhmaaGreatDoor
/- A range over a function whose rounds all go on and may write whatever they like but the loop's own two blocks. -/
namespace Go.Proofs.YtpeefmbdhkfhmaaGreatDoor
open Go Go.RowKit Go.Shelf
set_option linter.unusedVariables false
/-- the blocks of a range's own book-keeping -/
def lpy : Obj → Bool
  | .loop _ => true
  | .deferred _ => true
  | _ => false
/-- what abides the turn of such a block -/
def OwnL {β : Type} (B : Nat) (I : β → World → Prop) : Prop :=
  ∀ s W W' row, I s W → W.grownBy W' row → (∀ r, row = some r → B ≤ r ∧ ∃ o : Obj, W.heap[r]? = some o ∧ lpy o = true) → I s W'
theorem OwnL.putObj {β : Type} {B : Nat} {I : β → World → Prop} (h : OwnL B I) {s : β} {W : World} {l : Nat} {o : Obj} (o' : Obj) (hs : I s W) (hB : B ≤ l) (hl : W.heap[l]? = some o) (ho : lpy o = true) : I s (W.putObj l o') :=
  h s W _ (some l) hs (grownBy_putObj' W l o') (fun r e => by cases e; exact ⟨hB, o, hl, ho⟩)
theorem OwnL.alloc {β : Type} {B : Nat} {I : β → World → Prop} (h : OwnL B I) {s : β} {W : World} (o : Obj) (hs : I s W) : I s (W.alloc o) :=
  h s W _ none hs (World.grownBy_alloc W o none) (fun r e => by cases e)
structure KeepsL (W W' : World) : Prop where
  size : W.heap.size ≤ W'.heap.size
  same : ∀ (k : Nat) (o : Obj), W.heap[k]? = some o → lpy o = true → W'.heap[k]? = some o
theorem KeepsL.refl (W : World) : KeepsL W W := ⟨Nat.le_refl _, fun _ _ h _ => h⟩
theorem KeepsL.trans {X Y Z : World} (h : KeepsL X Y) (k : KeepsL Y Z) : KeepsL X Z := ⟨Nat.le_trans h.size k.size, fun i o hi ho => k.same i o (h.same i o hi ho) ho⟩
/-- the iterator hands out the list X, whatever the rounds do -/
def GivesU {α : Type} (F : Fence) (n : Nat) (P : Program) (gf : Nat) (lb : Array Value) (enc : α → Value) (X : List α) (w : World) : Prop :=
  ∀ (l : Nat) (J : List α → World → Prop) (W : World), Below w.heap.size w W → (∀ xs A B, J xs A → A.grownBy B none → J xs B) →
    (∀ pre x W1, J pre W1 → pre ++ [x] <+: X → YieldAt F (n - 1) P l #[enc x] W1 fun e W2 => e = .returned (.bool true) ∧ J (pre ++ [x]) W2) →
    J [] W → CallsIn F n P gf (#[.func (.yield l) #[] #[]] ++ lb) W fun e W2 => (∃ v, e = .returned v) ∧ J X W2
theorem range_up {α : Type} {F : Fence} {n : Nat} {P : Program} {g : Operand} {ps : Array Tmp} {assign body : Code} {Q : Exit → Act → World → Prop} {a : Act} {w : World}
    (hro : F.round = none) (h1 : 1 ≤ n) {gf : Nat} {lb : Array Value} (hg : a.eval g = .func (.func gf) #[] lb) (hFg : F.fn gf) (eg : ∀ args w, (callFunc gf args).run P w = .ok (.enter gf args) w)
    {enc : α → Value} {X : List α} (hseq : GivesU F (n - 1) P gf lb enc X w) (hps : ps.size = 1)
    (I : List α → World → Prop) (hI : OwnL w.heap.size I) (h0 : I [] w) (a1 : α → Act)
    (hassign : ∀ (l : Nat) (x : α) (W : World) (K : Act → World → Prop), K (a1 x) W → assign.wpIn (F.inRound l) (n - 1 - 1) P (Exit.then K (fun _ _ _ => False)) { tmps := (ps.zip #[enc x]).foldl (fun t (p, v) => t.setIfInBounds p v) a.tmps, defers := [] } W)
    (hbody : ∀ (l : Nat) (pre : List α) (x : α) (W : World), I pre W → pre ++ [x] <+: X → body.wpIn (F.inRound l) (n - 1 - 1) P (fun e _ W2 => e = .normal ∧ KeepsL W W2 ∧ I (pre ++ [x]) W2) (a1 x) W)
    (hdone : ∀ (D : Nat) (W : World), w.heap.size ≤ D → I X W → W.heap[D]? = some (.deferred (some [])) → Q .normal { a with defers := { target := .collected D, args := #[] } :: a.defers } W) :
    (Code.rangeFunc g ps assign body).wpIn F n P Q a w := by
  refine wpIn_rangeFunc fun fn hfn => ?_
  rw [hro]
  obtain ⟨r0, hr0⟩ : ∃ r0 : Loop, r0 = { state := .ready, pending := none, fn, tmps := a.tmps, params := ps, assign, body, defers := w.heap.size } := ⟨_, rfl⟩
  obtain ⟨L, hL⟩ : ∃ L, L = w.heap.size + 1 := ⟨_, rfl⟩
  obtain ⟨V, hV⟩ : ∃ V, V = (w.alloc (.deferred (some []))).alloc (.loop r0) := ⟨_, rfl⟩
  have vb : Below w.heap.size w V := by rw [hV]; exact ((Below.refl _ _).alloc (Nat.le_refl _) _).alloc (by simp) _
  have vL : V.heap[L]? = some (.loop r0) := by
    have := World.alloc_heap_new (w.alloc (.deferred (some []))) (.loop r0)
    rw [World.size_alloc] at this
    rw [hV, hL]
    exact this
  have vD : V.heap[w.heap.size]? = some (.deferred (some [])) := by
    rw [hV]
    exact (Below.heap_alloc _ _ _ (by simp)).trans (World.alloc_heap_new w _)
  have vI : I [] V := by rw [hV]; exact hI.alloc _ (hI.alloc _ h0)
  refine ⟨L, [{ target := .collected w.heap.size, args := #[] }], V, { target := .fn (.func gf) lb, args := #[.func (.yield L) #[] #[]] }, V, gf, #[.func (.yield L) #[] #[]] ++ lb, V, ?_, ?_, ?_, ?_, fun _ => h1, ?_⟩
  · rw [hV, hr0, hL]
    exact run_enterLoop_outer _ _ _ _ _
  · simp only [resolve, hg]
    simp [go_sem]
  · intro f2 hf2
    simp [Target.leads] at hf2
    subst hf2
    exact hFg
  · simp [invoke, go_sem, eg]
  · refine (hseq L (fun pre W => I pre W ∧ W.heap[L]? = some (.loop r0) ∧ W.heap[w.heap.size]? = some (.deferred (some []))) V vb ?_ ?_ ⟨vI, vL, vD⟩).mono ?_
    · intro xs A B hA hAB
      exact ⟨hI xs A B none hA.1 hAB (fun r e => by cases e), (hAB.block L (Array.getElem?_eq_some_iff.1 hA.2.1).1 (by simp)).trans hA.2.1, (hAB.block _ (Array.getElem?_eq_some_iff.1 hA.2.2).1 (by simp)).trans hA.2.2⟩
    · rintro pre x W ⟨wi, wl, wd⟩ hpx
      have hy := run_yield (P := P) (args := #[enc x]) wl (by rw [hr0]; exact hps.symm)
      rw [hr0] at hy
      refine ⟨fn, _, assign, body, hy, roundIn_of_wpIn hfn (hassign L x W _ ?_)⟩
      have busy := run_beginRound (P := P) wl (by rw [hr0])
      refine ⟨_, busy, ?_⟩
      have hlt := (Array.getElem?_eq_some_iff.1 wl).1
      obtain ⟨r1, hr1⟩ : ∃ r1 : Loop, r1 = { r0 with state := .busy } := ⟨_, rfl⟩
      rw [← hr1]
      have bl : (W.putObj L (.loop r1)).heap[L]? = some (.loop r1) := World.putObj_heap_same hlt
      have bd : (W.putObj L (.loop r1)).heap[w.heap.size]? = some (.deferred (some [])) := (World.putObj_heap_other (by omega)).trans wd
      refine wpIn_mono (hbody L pre x _ (hI.putObj _ wi (by omega) wl rfl) hpx) ?_
      rintro e a3 X2 ⟨rfl, xk, xi⟩
      have xl := xk.same _ _ bl rfl
      have xd := xk.same _ _ bd rfl
      have fin := run_endRound (P := P) none xl
      have er : ({ r1 with state := (if (none : Option Code).isNone = true then LoopState.ready else LoopState.done), pending := none } : Loop) = r0 := by rw [hr1, hr0]; rfl
      rw [er] at fin
      exact ⟨_, _, fin, rfl, ⟨hI.putObj _ xi (by omega) xl rfl, World.putObj_heap_same (Array.getElem?_eq_some_iff.1 xl).1, (World.putObj_heap_other (by omega)).trans xd⟩⟩
    · rintro e X2 ⟨⟨v, rfl⟩, xi, xl, xd⟩
      have fin := run_endLoop (P := P) xl (by rw [hr0]; simp)
      have ep : r0.pending = none := by rw [hr0]
      rw [ep] at fin
      exact ⟨none, _, fin, hdone w.heap.size _ (Nat.le_refl _) (hI.putObj _ xi (by omega) xl rfl) ((World.putObj_heap_other (by omega)).trans xd)⟩
end Go.Proofs.YtpeefmbdhkfhmaaGreatDoor
/- sums: upwards (66), its iterator (22). -/
namespace Go.Proofs.YtpeefmbdhkfhmaaGreatDoor
open Go Go.RowKit Go.Shelf Go.ChangeShapes Go.WideShapes Go.ChangeAt Go.Maps
set_option linter.unusedVariables false
attribute [local go_sem] Oper.semAt_some
def strV : Value → Nat
  | .string s => s.size
  | _ => 0
def upM (v3 v4 : Value) : Nat := match v4 with
  | .bool true => 1 + strV v3
  | _ => 0
/-- while the names above are given out -/
def UpAt (s : ByteArray) (J : List (List UInt8) → World → Prop) (v3 v4 : Value) (wr : World) : Prop :=
  ∃ (pre : List (List UInt8)) (u : ByteArray) (more : Bool), v3 = .string u ∧ v4 = .bool more ∧ J pre wr ∧ u.size < 4611686018427387904 ∧ (more = true → nameL u.data.toList = true ∧ pathL s.data.toList = pre ++ u.data.toList :: ups u.data.toList) ∧ (more = false → pre = pathL s.data.toList)
set_option maxRecDepth 100000 in
set_option maxHeartbeats 4000000 in
theorem up_gives (s : ByteArray) (hs : s.size < 4611686018427387904) (hnm : nameL s.data.toList = true) (B : Nat) (w : World) (hB : w.cell? ⟨B, 0, none⟩ = some (.string s)) (n : Nat) (hn : 1 ≤ n) :
    GivesU Fence.wide n Tryz.prog 165 #[.pointer (some ⟨B, 0, none⟩)] encStr (pathL s.data.toList) w := by
  intro l J W hW hJ hY h0
  have hbox : W.cell? ⟨B, 0, none⟩ = some (.string s) := (hW.cell (p := ⟨B, 0, none⟩) (World.block_lt_of_cell? w _ hB)).trans hB
  have HY := hide hY
  have HJ := hide hJ
  have H0 := hide h0
  have HN := hide hnm
  clear hY hJ h0 hB hW hnm
  refine callsIn_of_wp Tryz.func165 rfl trivial ?_ rfl
  simp only [Tryz.ntmps165, List.size_toArray, List.length_cons, List.length_nil, Nat.reduceAdd, Nat.reduceSub, Array.replicate_succ, Array.replicate_zero, List.push_toArray, List.append_toArray, List.nil_append, List.cons_append]
  gi_wp2_with fail
  gi_loopw [3, 4] (fun v3 v4 wr => UpAt s J v3 v4 wr) (fun v3 v4 _ => upM v3 v4)
  case atStart =>
    refine ⟨[], s, true, rfl, rfl, unhide H0, hs, fun h => ⟨unhide HN, ?_⟩, fun h => by cases h⟩
    rw [pathL, if_pos (unhide HN)]; rfl
  case round =>
    obtain ⟨pre, u, more, rfl, rfl, hj, hu, ht, hf⟩ := hrel
    cases more with
    | false =>
      have hpre := hide (hf rfl)
      have HJ0 := hide hj
      clear ht hf hj
      gi_wp2_with fail
      refine ⟨fun _ h => (by cases h), ?_⟩
      gi_wp2
      go_end0
      exact ⟨⟨_, rfl⟩, by rw [← unhide hpre]; exact unhide HJ0⟩
    | true =>
      obtain ⟨hnu, hpu⟩ := ht rfl
      obtain ⟨fn, tmps, assign, body, hy, hR⟩ := unhide HY pre u.data.toList wr hj (by rw [hpu]; exact ⟨ups u.data.toList, by simp⟩)
      have he : encStr u.data.toList = .string u := by
        show Value.string ⟨u.data.toList.toArray⟩ = .string u
        rw [← text_of (x := u) rfl]
      rw [he] at hy
      have HR := hide hR
      have HNU := hide hnu
      have HPU := hide hpu
      clear ht hf hj hnu hpu hR he
      gi_wp2_with fail
      refine (unhide HR).mono ?_
      rintro e W3 ⟨rfl, hJ3⟩
      have J3 := hide hJ3
      clear hJ3
      gi_wp2_with fail
      refine ⟨trivial, ?_⟩
      refine (callsIn_wide.2 (parent_any u hu W3)).mono ?_
      rintro e W4 ⟨rfl, hb4⟩
      have B4 := hide hb4
      clear hb4
      gi_wp2_with fail
      have hnu := unhide HNU
      have hpu := unhide HPU
      have hJ4 := unhide HJ (pre ++ [u.data.toList]) W3 W4 (unhide J3) (grown_of_below (unhide B4))
      cases hup : ups u.data.toList with
      | nil =>
        have e1 : parS u.data.toList = (⟨#[]⟩, false) := by rw [parS, if_pos hnu, hup]
        rw [e1]
        refine ⟨⟨pre ++ [u.data.toList], ⟨#[]⟩, false, rfl, rfl, hJ4, by decide, fun h => (by cases h), fun _ => ?_⟩, by simp only [upM, strV]; omega⟩
        rw [hpu, hup]
      | cons p t =>
        have e1 : parS u.data.toList = (⟨p.toArray⟩, true) := by rw [parS, if_pos hnu, hup]
        rw [e1]
        have hpl := ups_len_lt hup
        have hps : (⟨p.toArray⟩ : ByteArray).size = p.length := by simp [ByteArray.size]
        have hc : u.data.toList.contains 58 = true := by
          by_cases hc : u.data.toList.contains 58 = true
          · exact hc
          · rw [ups_none _ (by simpa using hc)] at hup
            cases hup
        obtain ⟨j, hj, _, hu2, hn2⟩ := ups_some u hc
        rw [hu2] at hup
        injection hup with ep et
        refine ⟨⟨pre ++ [u.data.toList], ⟨p.toArray⟩, true, rfl, rfl, hJ4, by omega, fun _ => ⟨?_, ?_⟩, fun h => (by cases h)⟩, by simp only [upM, strV]; omega⟩
        · show nameL p = true
          rw [← ep]
          exact hn2 hnu
        · show _ = (pre ++ [u.data.toList]) ++ p :: ups p
          rw [hpu, hu2, List.append_assoc, ep]
          rfl
set_option maxHeartbeats 1000000 in
theorem upwards_any (s : ByteArray) (w : World) : Calls Tryz.prog 84 #[.string s] w fun e w' => e = .returned (.func (.func 165) #[] #[.pointer (some ⟨w.heap.size, 0, none⟩)]) ∧ w' = w.alloc (.cells #[.string s] 9) := by
  go_enter Tryz.func84, Tryz.ntmps84
  go_wp2_with fail
  go_ret
  exact ⟨rfl, rfl⟩
theorem enters31 : ∀ args w, (callFunc 165 args).run Tryz.prog w = .ok (.enter 165 args) w := by
  exact enters_of Tryz.func165 (by kernel_rfl) rfl
end Go.Proofs.YtpeefmbdhkfhmaaGreatDoor
/- Plain numbers: the sums of a list, above and below 0. Nothing of the program. -/
namespace Go.Proofs.YtpeefmbdhkfhmaaGreatDoor

def sumZ (zs : Nat → Int) : Nat → Int
  | 0 => 0
  | k + 1 => sumZ zs k + zs k
def upN (zs : Nat → Int) : Nat → Nat
  | 0 => 0
  | k + 1 => upN zs k + (if 0 ≤ zs k then (zs k).natAbs else 0)
def dnN (zs : Nat → Int) : Nat → Nat
  | 0 => 0
  | k + 1 => dnN zs k + (if 0 ≤ zs k then 0 else (zs k).natAbs)
def anyMin (zs : Nat → Int) : Nat → Bool
  | 0 => false
  | k + 1 => anyMin zs k || zs k == -9223372036854775808
/-- the document's answer of Sum: the sum and its error -/
def sumSpec (zs : Nat → Int) (len : Nat) : Int × Int :=
  if anyMin zs len then (0, 10)
  else if -9223372036854775808 < sumZ zs len ∧ sumZ zs len < 9223372036854775808 then (sumZ zs len, 0) else (0, 11)

theorem upN_pos {zs : Nat → Int} {k : Nat} (h : 0 ≤ zs k) : upN zs (k + 1) = upN zs k + (zs k).natAbs := by simp [upN, h]
theorem upN_neg {zs : Nat → Int} {k : Nat} (h : ¬ 0 ≤ zs k) : upN zs (k + 1) = upN zs k := by simp [upN, h]
theorem dnN_pos {zs : Nat → Int} {k : Nat} (h : 0 ≤ zs k) : dnN zs (k + 1) = dnN zs k := by simp [dnN, h]
theorem dnN_neg {zs : Nat → Int} {k : Nat} (h : ¬ 0 ≤ zs k) : dnN zs (k + 1) = dnN zs k + (zs k).natAbs := by simp [dnN, h]

theorem up_dn (zs : Nat → Int) : ∀ k, (upN zs k : Int) - dnN zs k = sumZ zs k
  | 0 => rfl
  | k + 1 => by
    have := up_dn zs k
    by_cases h : 0 ≤ zs k
    · rw [upN_pos h, dnN_pos h]; simp only [sumZ]; omega
    · rw [upN_neg h, dnN_neg h]; simp only [sumZ]; omega

theorem up_dn_bd (zs : Nat → Int) (len : Nat) (hz : ∀ k, k < len → -9223372036854775808 ≤ zs k ∧ zs k ≤ 9223372036854775807) : ∀ k, k ≤ len → upN zs k ≤ k * 9223372036854775808 ∧ dnN zs k ≤ k * 9223372036854775808
  | 0, _ => by simp [upN, dnN]
  | k + 1, hk => by
    have h1 := up_dn_bd zs len hz k (by omega)
    have h2 := hz k (by omega)
    have h3 : (zs k).natAbs ≤ 9223372036854775808 := by omega
    have h4 : (k + 1) * 9223372036854775808 = k * 9223372036854775808 + 9223372036854775808 := Nat.succ_mul _ _
    rw [h4]
    clear h2 hz h4
    generalize k * 9223372036854775808 = K at *
    by_cases h : 0 ≤ zs k
    · rw [upN_pos h, dnN_pos h]
      exact ⟨Nat.add_le_add h1.1 h3, Nat.le_trans h1.2 (Nat.le_add_right _ _)⟩
    · rw [upN_neg h, dnN_neg h]
      exact ⟨Nat.le_trans h1.1 (Nat.le_add_right _ _), Nat.add_le_add h1.2 h3⟩

theorem anyMin_mono (zs : Nat → Int) (k : Nat) (h : anyMin zs k = true) : ∀ j, k ≤ j → anyMin zs j = true
  | 0, hj => by
    have : k = 0 := by omega
    subst this
    exact h
  | j + 1, hj => by
    by_cases e : k = j + 1
    · subst e; exact h
    · have := anyMin_mono zs k h j (by omega)
      simp [anyMin, this]

theorem anyMin_ext {zs ys : Nat → Int} (n : Nat) (h : ∀ i, i < n → zs i = ys i) : anyMin zs n = anyMin ys n := by
  induction n with
  | zero => rfl
  | succ n ih => simp only [anyMin, ih (fun i hi => h i (by omega)), h n (by omega)]
theorem sumZ_ext {zs ys : Nat → Int} (n : Nat) (h : ∀ i, i < n → zs i = ys i) : sumZ zs n = sumZ ys n := by
  induction n with
  | zero => rfl
  | succ n ih => simp only [sumZ, ih (fun i hi => h i (by omega)), h n (by omega)]
theorem sumSpec_ext {zs ys : Nat → Int} (n : Nat) (h : ∀ i, i < n → zs i = ys i) : sumSpec zs n = sumSpec ys n := by
  simp only [sumSpec, anyMin_ext n h, sumZ_ext n h]

theorem sumSpec_bad {zs : Nat → Int} {len k : Nat} (hk : k < len) (hb : zs k = -9223372036854775808) : sumSpec zs len = (0, 10) := by
  have h1 : anyMin zs (k + 1) = true := by simp [anyMin, hb]
  have h2 := anyMin_mono zs (k + 1) h1 len (by omega)
  simp [sumSpec, h2]
theorem sumSpec_fits {zs : Nat → Int} {len : Nat} (h : anyMin zs len = false) (h1 : -9223372036854775808 < sumZ zs len) (h2 : sumZ zs len < 9223372036854775808) : sumSpec zs len = (sumZ zs len, 0) := by
  simp [sumSpec, h, h1, h2]
theorem sumSpec_over {zs : Nat → Int} {len : Nat} (h : anyMin zs len = false) (h1 : ¬ (-9223372036854775808 < sumZ zs len ∧ sumZ zs len < 9223372036854775808)) : sumSpec zs len = (0, 11) := by
  simp [sumSpec, h, h1]
theorem anyMin_step {zs : Nat → Int} {k : Nat} (h : anyMin zs k = false) (hk : ¬ zs k = -9223372036854775808) : anyMin zs (k + 1) = false := by
  simp [anyMin, h, hk]

/-- the sum of less than 2^63 numbers, in six words -/
theorem room (zs : Nat → Int) (len : Nat) (hl : len ≤ 9223372036854775807) (hz : ∀ k, k < len → -9223372036854775808 ≤ zs k ∧ zs k ≤ 9223372036854775807) (k : Nat) (hk : k ≤ len) : upN zs k < 340282366920938463463374607431768211456 ∧ dnN zs k < 340282366920938463463374607431768211456 := by
  have h := up_dn_bd zs len hz k hk
  have : k * 9223372036854775808 ≤ 9223372036854775807 * 9223372036854775808 := Nat.mul_le_mul_right _ (by omega)
  omega
end Go.Proofs.YtpeefmbdhkfhmaaGreatDoor
