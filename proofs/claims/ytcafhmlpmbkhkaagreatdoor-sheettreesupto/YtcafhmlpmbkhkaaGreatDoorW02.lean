import Derived.Test.YtcafhmlpmbkhkaaGreatDoorW01
import Derived.Lib.SplitLaws
import Derived.Lib.LastIndexByte
import Derived.Laws.AppendOwn
import Derived.Laws.AppendOwnNone
import Derived.Laws.OwnMore
import Derived.Deep.AppendLies
import Derived.Deep.MidRow
import Derived.Laws.MakeOwn
import Derived.Maps.AppendAt
/- An account's name: its parts, and the document's way through it byte by byte. No program in it. -/
namespace Go.Proofs.YtcafhmlpmbkhkaaGreatDoor
open Go
set_option linter.unusedVariables false
/-- cut at each colon -/
def spl : List UInt8 → List (List UInt8)
  | [] => [[]]
  | c :: l => if c = 58 then [] :: spl l else match spl l with
    | [] => [[c]]
    | h :: t => (c :: h) :: t
theorem spl_ne (l : List UInt8) : ∃ h t, spl l = h :: t := by
  cases l with
  | nil => exact ⟨_, _, rfl⟩
  | cons c l =>
    unfold spl
    split
    · exact ⟨_, _, rfl⟩
    · split
      · exact ⟨_, _, rfl⟩
      · exact ⟨_, _, rfl⟩
theorem spl_cons {c : UInt8} {l h : List UInt8} {t : List (List UInt8)} (hc : ¬ c = 58) (e : spl l = h :: t) : spl (c :: l) = (c :: h) :: t := by
  rw [spl, if_neg hc, e]
theorem spl_len (l : List UInt8) : (spl l).length = l.count 58 + 1 := by
  induction l with
  | nil => rfl
  | cons c l ih =>
    by_cases hc : c = 58
    · subst hc
      rw [spl, if_pos rfl, List.length_cons, ih, List.count_cons_self]
    · obtain ⟨h, t, e⟩ := spl_ne l
      rw [spl_cons hc e, List.length_cons, List.count_cons_of_ne (by simpa using hc)]
      rw [e, List.length_cons] at ih
      exact ih
theorem index_cons_eq (l : List UInt8) : Lib.index (58 :: l) [58] = 0 := by
  unfold Lib.index
  simp [List.isPrefixOf]
theorem index_cons_ne {c : UInt8} (l : List UInt8) (hc : ¬ c = 58) : Lib.index (c :: l) [58] = if Lib.index l [58] == -1 then -1 else Lib.index l [58] + 1 := by
  rw [Lib.index]
  have : ([58] : List UInt8).isPrefixOf (c :: l) = false := by simp [List.isPrefixOf]; exact fun e => hc e.symm
  rw [this]
  rfl
theorem spl_miss : ∀ (l : List UInt8), Lib.index l [58] = -1 → spl l = [l]
  | [], _ => rfl
  | c :: l, h => by
    by_cases hc : c = 58
    · subst hc
      rw [index_cons_eq] at h
      cases h
    · rw [index_cons_ne l hc] at h
      have h1 : Lib.index l [58] = -1 := by
        by_cases e : Lib.index l [58] = -1
        · exact e
        · have := Lib.index_ge l [58]
          rw [if_neg (by simpa using e)] at h
          omega
      rw [spl_cons hc (spl_miss l h1)]
theorem spl_hit : ∀ (l : List UInt8) (i : Nat), Lib.index l [58] = i → spl l = l.take i :: spl (l.drop (i + 1))
  | [], i, h => by simp [Lib.index] at h
  | c :: l, i, h => by
    by_cases hc : c = 58
    · subst hc
      rw [index_cons_eq] at h
      have : i = 0 := by omega
      subst this
      rw [spl, if_pos rfl]
      rfl
    · rw [index_cons_ne l hc] at h
      by_cases e : Lib.index l [58] = -1
      · rw [if_pos (by simpa using e)] at h
        omega
      · rw [if_neg (by simpa using e)] at h
        have hg := Lib.index_ge l [58]
        obtain ⟨j, hj⟩ : ∃ j : Nat, i = j + 1 := ⟨i - 1, by omega⟩
        subst hj
        rw [spl_cons hc (spl_hit l j (by omega))]
        rfl
theorem count_drop : ∀ (l : List UInt8) (i : Nat), Lib.index l [58] = i → l.count 58 = (l.drop (i + 1)).count 58 + 1
  | [], i, h => by simp [Lib.index] at h
  | c :: l, i, h => by
    by_cases hc : c = 58
    · subst hc
      rw [index_cons_eq] at h
      have : i = 0 := by omega
      subst this
      rw [List.count_cons_self]
      rfl
    · rw [index_cons_ne l hc] at h
      by_cases e : Lib.index l [58] = -1
      · rw [if_pos (by simpa using e)] at h
        omega
      · rw [if_neg (by simpa using e)] at h
        have hg := Lib.index_ge l [58]
        obtain ⟨j, hj⟩ : ∃ j : Nat, i = j + 1 := ⟨i - 1, by omega⟩
        subst hj
        rw [List.count_cons_of_ne (by simpa using hc), count_drop l j (by omega)]
        rfl
theorem splitK_spl : ∀ (k : Nat) (l : List UInt8), l.count 58 = k → Lib.splitK [58] 0 k l = spl l
  | 0, l, h => by
    have : Lib.index l [58] = -1 := by
      by_cases e : Lib.index l [58] = -1
      · exact e
      · have hg := Lib.index_ge l [58]
        obtain ⟨j, hj⟩ : ∃ j : Nat, Lib.index l [58] = j := ⟨(Lib.index l [58]).toNat, by omega⟩
        have := count_drop l j hj
        omega
    rw [spl_miss l this]
    rfl
  | k + 1, l, h => by
    have hg := Lib.index_ge l [58]
    by_cases e : Lib.index l [58] = -1
    · have h1 := spl_len l
      rw [spl_miss l e, h] at h1
      simp at h1
    · obtain ⟨j, hj⟩ : ∃ j : Nat, Lib.index l [58] = j := ⟨(Lib.index l [58]).toNat, by omega⟩
      have hc := count_drop l j hj
      rw [Lib.splitK, if_neg (by simpa using e), spl_hit l j hj, hj]
      have : ((j : Int)).toNat = j := by omega
      rw [this, splitK_spl k (l.drop (j + [58].length)) (by show (l.drop (j + 1)).count 58 = k; omega)]
      rfl
/-- a part, as a list -/
def partL (l : List UInt8) : Bool := !l.isEmpty && decide (l.length ≤ 16) && upB (l.getD 0 0).toNat && (l.drop 1).all fun b => partB b.toNat
theorem partS_eq (s : ByteArray) : partS s = partL s.data.toList := by
  unfold partS partL allL tail1 b0
  have e1 : (s.extract 1 s.size).data.toList = s.data.toList.drop 1 := Lib.extract_to_end s 1
  have e2 : (!decide (s.size = 0)) = !s.data.toList.isEmpty := by
    by_cases h : s.size = 0
    · have := empty_of_size h
      subst this
      rfl
    · have h1 := ne_of_size h
      rw [Lib.toList_data] at h1
      rw [h1, decide_eq_false h]
  have e3 : s.size = s.data.toList.length := by simp
  rw [e1, e2, e3]
def nameL (l : List UInt8) : Bool := decide (l.count 58 < 6) && (spl l).all partL
/-- the document's way: parts so far, bytes of this one -/
def nm (parts size : Nat) : List UInt8 → Bool
  | [] => decide (0 < size) && decide (parts ≤ 6)
  | c :: l => if c = 58 then (if size = 0 then false else nm (parts + 1) 0 l) else if (size = 0 ∧ upB c.toNat = false) ∨ partB c.toNat = false then false else if 16 < size + 1 then false else nm parts (size + 1) l
def pc (size : Nat) (h : List UInt8) : Bool := if size = 0 then partL h else (h.all fun b => partB b.toNat) && decide (size + h.length ≤ 16)
theorem partL_cons (c : UInt8) (h : List UInt8) : partL (c :: h) = (decide (h.length + 1 ≤ 16) && upB c.toNat && h.all fun b => partB b.toNat) := rfl
theorem nm_eq : ∀ (l : List UInt8) (parts size : Nat) (h : List UInt8) (t : List (List UInt8)), size ≤ 16 → spl l = h :: t → nm parts size l = (pc size h && t.all partL && decide (parts + t.length ≤ 6))
  | [], parts, size, h, t, hs, e => by
    injection e with e1 e2
    subst e1 e2
    unfold nm pc
    by_cases h0 : size = 0
    · subst h0
      simp [partL]
    · have : 0 < size := by omega
      simp [h0, this, hs]
  | c :: l, parts, size, h, t, hs, e => by
    obtain ⟨h', t', e'⟩ := spl_ne l
    by_cases hc : c = 58
    · subst hc
      rw [spl, if_pos rfl] at e
      injection e with e1 e2
      subst e1 e2
      rw [nm, if_pos rfl]
      by_cases h0 : size = 0
      · subst h0
        simp [pc, partL]
      · rw [if_neg h0, nm_eq l (parts + 1) 0 h' t' (by omega) e', e']
        have h3 : size ≤ 16 := hs
        have h4 : parts + 1 + t'.length = parts + (t'.length + 1) := by omega
        simp [pc, h0, hs, h4]
    · rw [spl_cons hc e'] at e
      injection e with e1 e2
      subst e1 e2
      rw [nm, if_neg hc]
      by_cases h0 : size = 0
      · subst h0
        by_cases hu : upB c.toNat = true
        · have hp : partB c.toNat = true := by unfold partB; rw [hu]; rfl
          rw [if_neg (by simp [hu, hp]), if_neg (by omega), nm_eq l parts 1 h' t' (by omega) e']
          have h5 : 1 + h'.length = h'.length + 1 := by omega
          simp only [pc, partL_cons, hu, h5]
          simp [Bool.and_comm]
        · have hu' : upB c.toNat = false := by simpa using hu
          rw [if_pos (.inl ⟨rfl, hu'⟩)]
          simp [pc, partL_cons, hu']
      · by_cases hp : partB c.toNat = true
        · rw [if_neg (by simp [h0, hp])]
          by_cases h6 : 16 < size + 1
          · rw [if_pos h6]
            have : ¬ size + (h'.length + 1) ≤ 16 := by omega
            simp [pc, h0, this]
          · rw [if_neg h6, nm_eq l parts (size + 1) h' t' (by omega) e']
            have h5 : size + 1 + h'.length = size + (h'.length + 1) := by omega
            simp [pc, h0, hp, h5]
        · have hp' : partB c.toNat = false := by simpa using hp
          rw [if_pos (.inr hp')]
          simp [pc, h0, hp']
theorem nm_name (l : List UInt8) : nm 1 0 l = nameL l := by
  obtain ⟨h, t, e⟩ := spl_ne l
  have hl := spl_len l
  rw [nm_eq l 1 0 h t (by omega) e, nameL, e]
  rw [e, List.length_cons] at hl
  have h1 : (1 + t.length ≤ 6) ↔ l.count 58 < 6 := by omega
  simp [pc, h1, Bool.and_comm]
end Go.Proofs.YtcafhmlpmbkhkaaGreatDoor
/- An account's path: the names above one. No program in it. -/
namespace Go.Proofs.YtcafhmlpmbkhkaaGreatDoor
open Go
set_option linter.unusedVariables false
theorem spl_append (a b : List UInt8) : spl (a ++ 58 :: b) = spl a ++ spl b := by
  induction a with
  | nil => simp [spl]
  | cons c a ih =>
    rw [List.cons_append]
    by_cases hc : c = 58
    · rw [spl, if_pos hc, ih, spl, if_pos hc]
      rfl
    · obtain ⟨h, t, e⟩ := spl_ne a
      rw [spl_cons hc e]
      have e2 : spl (a ++ 58 :: b) = h :: (t ++ spl b) := by rw [ih, e]; rfl
      rw [spl_cons hc e2]
      rfl
theorem name_above {a b : List UInt8} (h : nameL (a ++ 58 :: b) = true) : nameL a = true := by
  unfold nameL at h ⊢
  rw [spl_append, List.all_append, List.count_append] at h
  simp only [Bool.and_eq_true, decide_eq_true_eq] at h ⊢
  exact ⟨by have := h.1; omega, h.2.1⟩
/-- the names above one, among its first bytes, the longest first -/
def upsK (l : List UInt8) : Nat → List (List UInt8)
  | 0 => []
  | i + 1 => if l[i]? = some 58 then l.take i :: upsK l i else upsK l i
def ups (l : List UInt8) : List (List UInt8) := upsK l l.length
/-- an account's path -/
def pathL (l : List UInt8) : List (List UInt8) := if nameL l = true then l :: ups l else []
theorem upsK_take (l : List UInt8) (j : Nat) : ∀ i, i ≤ j → upsK (l.take j) i = upsK l i
  | 0, _ => rfl
  | i + 1, h => by
    have e1 : (l.take j)[i]? = l[i]? := List.getElem?_take_of_lt (by omega)
    have e2 : (l.take j).take i = l.take i := by rw [List.take_take]; congr 1; omega
    rw [upsK, upsK, e1, e2, upsK_take l j i (by omega)]
theorem upsK_skip (l : List UInt8) (i : Nat) : ∀ n, i ≤ n → (∀ k, i ≤ k → k < n → l[k]? ≠ some 58) → upsK l n = upsK l i
  | 0, h, _ => by have : i = 0 := by omega
                  subst this; rfl
  | n + 1, h, hk => by
    by_cases e : i = n + 1
    · subst e; rfl
    · rw [upsK, if_neg (hk n (by omega) (by omega))]
      exact upsK_skip l i n (by omega) (fun k h1 h2 => hk k h1 (by omega))
theorem upsK_len (l : List UInt8) : ∀ i, i ≤ l.length → (upsK l i).length = (l.take i).count 58
  | 0, _ => by simp [upsK]
  | i + 1, h => by
    have hi : i < l.length := by omega
    have e : l.take (i + 1) = l.take i ++ [l[i]] := by rw [List.take_append_getElem]
    have e2 : l[i]? = some l[i] := List.getElem?_eq_getElem hi
    rw [upsK, e, List.count_append, e2]
    by_cases hc : l[i] = 58
    · rw [hc, if_pos rfl, List.length_cons, upsK_len l i (by omega)]
      simp
    · rw [if_neg (by simpa using hc), upsK_len l i (by omega)]
      have : [l[i]].count 58 = 0 := by rw [List.count_eq_zero]; simpa using fun e => hc e.symm
      omega
theorem path_len (l : List UInt8) : (pathL l).length ≤ 6 := by
  unfold pathL
  by_cases h : nameL l = true
  · rw [if_pos h, List.length_cons, ups, upsK_len l _ (Nat.le_refl _), List.take_length]
    unfold nameL at h
    simp only [Bool.and_eq_true, decide_eq_true_eq] at h
    omega
  · rw [if_neg h]; simp
theorem ups_none (l : List UInt8) (h : l.contains 58 = false) : ups l = [] := by
  rw [ups, upsK_skip l 0 l.length (by omega) (fun k _ hk e => ?_)]
  · rfl
  · have : (58 : UInt8) ∈ l := List.mem_of_getElem? e
    rw [List.contains_iff_mem.2 this] at h
    cases h
/-- the last colon -/
theorem ups_some (s : ByteArray) (h : s.data.toList.contains 58 = true) : ∃ j : Nat, j < s.size ∧ Lib.lastIndexByte s 58 = (j : Int) ∧ ups s.data.toList = s.data.toList.take j :: ups (s.data.toList.take j) ∧ (nameL s.data.toList = true → nameL (s.data.toList.take j) = true) := by
  have hb : ∀ j, j < s.size → s.data.toList[j]? = some s.data[j]! := fun j hj => by
    have hj' : j < s.data.size := hj
    rw [Array.getElem?_toList, Array.getElem?_eq_getElem hj', getElem!_pos s.data j hj']
  rcases Lib.lastIndexByte_spec s 58 with ⟨_, hno⟩ | ⟨j, hj, he, hc, hnb⟩
  · exfalso
    have hm : (58 : UInt8) ∈ s.data.toList := List.contains_iff_mem.1 h
    obtain ⟨k, hk⟩ := List.getElem?_of_mem hm
    have hks : k < s.size := by
      have := (List.getElem?_eq_some_iff.1 hk).1
      simpa using this
    rw [hb k hks] at hk
    injection hk with hk
    exact hno k hks (by rw [hk]; rfl)
  · have hsz : s.data.toList.length = s.size := by simp
    have h58 : s.data[j]! = 58 := by
      apply UInt8.toNat_inj.1
      have : (s.data[j]!).toNat = 58 := by exact_mod_cast hc
      exact this
    have hj58 : s.data.toList[j]? = some 58 := by rw [hb j hj, h58]
    have hle : (s.data.toList.take j).length = j := by rw [List.length_take, hsz]; omega
    refine ⟨j, hj, he, ?_, fun hn => ?_⟩
    · rw [ups, upsK_skip s.data.toList (j + 1) s.data.toList.length (by omega) (fun k h1 h2 e => ?_), upsK, if_pos hj58, ups, hle, upsK_take _ _ _ (Nat.le_refl _)]
      rw [hsz] at h2
      rw [hb k h2] at e
      injection e with e
      exact hnb k (by omega) h2 (by rw [e]; rfl)
    · have e : s.data.toList = s.data.toList.take j ++ 58 :: s.data.toList.drop (j + 1) := by
        have h1 := List.take_append_drop j s.data.toList
        have h2 : s.data.toList.drop j = 58 :: s.data.toList.drop (j + 1) := by
          have hjl : j < s.data.toList.length := by omega
          rw [List.drop_eq_getElem_cons hjl]
          congr 1
          rw [List.getElem?_eq_getElem hjl] at hj58
          injection hj58
        rw [← h2, h1]
      rw [e] at hn
      exact name_above hn
end Go.Proofs.YtcafhmlpmbkhkaaGreatDoor
/- Rows of texts. -/
namespace Go.Proofs.YtcafhmlpmbkhkaaGreatDoor
open Go Go.ChangeShapes Go.WideShapes Go.ChangeAt Go.RowKit
set_option linter.unusedVariables false
theorem setCell_drewN (w : World) (n : Nat) (a : Addr) (v : Value) : (w.drewN n).setCell a v = (w.setCell a v).drewN n := rfl
theorem alloc_drewN (w : World) (n : Nat) (o : Obj) : (w.drewN n).alloc o = (w.alloc o).drewN n := rfl
theorem bal {w W : World} (h : Below w.heap.size w W) (o : Obj) : Below w.heap.size w (W.alloc o) := h.alloc h.size o
theorem below_drewN {B : Nat} {a w : World} (h : Below B a w) (n : Nat) : Below B a (w.drewN n) := ⟨h.os, h.tape, h.output, h.size, h.block⟩
theorem step_below {B : Nat} {a W w1 : World} (h : Below B a W) (hB : B ≤ a.heap.size) (hb : Below W.heap.size W w1) : Below B a w1 := h.trans (hb.mono (Nat.le_trans hB h.size))
theorem keep1 {W w1 : World} (hb : Below W.heap.size W w1) {b o : Nat} {v : Value} (h : b < W.heap.size) (hv : W.cell? ⟨b, o, none⟩ = some v) : w1.cell? ⟨b, o, none⟩ = some v := (hb.cell (p := ⟨b, o, none⟩) h).trans hv
theorem keepF {W w1 : World} (hb : Below W.heap.size W w1) {b o : Nat} {v : Bool} (h : b < W.heap.size) (hv : W.frozen? ⟨b, o, none⟩ = v) : w1.frozen? ⟨b, o, none⟩ = v := (hb.frozen (p := ⟨b, o, none⟩) h).trans hv
theorem drew_two (w : World) (m n : Nat) : (w.drewN m).drewN n = w.drewN (m + n) := World.drewN_drewN w m n
theorem info9 : (Tryz.prog.info? 9).map (fun i => (i.zero, i.size, i.bytes)) = some (some (.string ⟨#[]⟩), 1, 16) := by kernel_rfl
theorem info_parts {t : TypeId} {z : Value} {a b : Nat} (h : (Tryz.prog.info? t).map (fun i => (i.zero, i.size, i.bytes)) = some (some z, a, b)) : ∃ i, Tryz.prog.info? t = some i ∧ i.zero = some z ∧ i.size = a ∧ i.bytes = b := by
  obtain ⟨i, hi, hz⟩ := Option.map_eq_some_iff.1 h
  simp only [Prod.mk.injEq] at hz
  exact ⟨i, hi, hz.1, hz.2.1, hz.2.2⟩
theorem own_open {w : World} {base size n : Nat} {e : TypeId} {v : Value} {xs : List Value} (h : w.ownsRow base e size v n xs) (hn : 0 < n) : ∃ g c, v = .slice (some ⟨g, 0, none⟩) n c := by
  rcases h.2 with ⟨_, h0⟩ | ⟨g, cap, cur, rfl, _⟩
  · omega
  · exact ⟨g, cap, rfl⟩
theorem cell_one_new (w : World) (v : Value) (t : TypeId) : ∀ j u, ([v] : List Value)[j]? = some u → (w.alloc (.cells #[v] t)).cell? ((⟨w.heap.size, 0, none⟩ : Addr).add j) = some u := by
  intro j u hj
  rw [Addr.add_mid, Nat.zero_add, World.cell?_alloc_mark]
  simpa using hj
theorem one_one (s : ByteArray) : ∀ u ∈ ([.string s] : List Value), u.oneCell' = true := by
  intro u hu
  simp at hu
  subst hu
  rfl
/-- texts as cells -/
def scells (f : Nat → ByteArray) (n : Nat) : List Value := (List.range n).map fun i => .string (f i)
theorem scells_len (f : Nat → ByteArray) (n : Nat) : (scells f n).length = n := by simp [scells]
theorem scells_succ (f : Nat → ByteArray) (n : Nat) : scells f (n + 1) = scells f n ++ [.string (f n)] := by simp [scells, List.range_succ]
theorem scells_get (f : Nat → ByteArray) (n j : Nat) (h : j < n) : (scells f n)[j]? = some (.string (f j)) := by simp [scells, h]
theorem scells_get' {f : Nat → ByteArray} {n j : Nat} {u : Value} (h : (scells f n)[j]? = some u) : j < n ∧ u = .string (f j) := by
  by_cases hj : j < n
  · rw [scells_get f n j hj] at h
    exact ⟨hj, (Option.some.inj h).symm⟩
  · rw [List.getElem?_eq_none (by rw [scells_len]; omega)] at h
    cases h
theorem scells_one (f : Nat → ByteArray) (n : Nat) : ∀ u ∈ scells f n, u.oneCell' = true := by
  intro u hu
  simp only [scells, List.mem_map] at hu
  obtain ⟨i, _, rfl⟩ := hu
  rfl
theorem scells_ext {f g : Nat → ByteArray} (n : Nat) (h : ∀ i, i < n → f i = g i) : scells f n = scells g n := by
  induction n with
  | zero => rfl
  | succ n ih => rw [scells_succ, scells_succ, ih (fun i hi => h i (by omega)), h n (by omega)]
/-- one behind the other -/
def cat {α : Type} (f : Nat → α) (n : Nat) (g : Nat → α) : Nat → α := fun i => if i < n then f i else g (i - n)
theorem cat_lt {α : Type} {f g : Nat → α} {n i : Nat} (h : i < n) : cat f n g i = f i := by simp [cat, h]
theorem cat_ge {α : Type} {f g : Nat → α} {n : Nat} (i : Nat) : cat f n g (n + i) = g i := by
  have : ¬ n + i < n := by omega
  simp only [cat, if_neg this, Nat.add_sub_cancel_left]
/-- a list of texts as a row -/
def fOf (l : List (List UInt8)) : Nat → ByteArray := fun i => ⟨(l.getD i []).toArray⟩
theorem scells_list (l : List (List UInt8)) : scells (fOf l) l.length = l.map fun x => .string ⟨x.toArray⟩ := by
  apply List.ext_getElem?
  intro j
  by_cases hj : j < l.length
  · rw [scells_get _ _ _ hj]
    simp [fOf, hj, List.getD]
  · rw [List.getElem?_eq_none (by rw [scells_len]; omega), List.getElem?_eq_none (by simp; omega)]
/-- a slice that shows so many texts -/
def TLies (f : Nat → ByteArray) (v : Value) (n : Nat) (W : World) : Prop :=
  (n = 0 ∧ v = .slice none 0 0) ∨ ∃ b cap, v = .slice (some ⟨b, 0, none⟩) n cap ∧ b < W.heap.size ∧ ∀ k, k < n → W.cell? ⟨b, k, none⟩ = some (.string (f k))
theorem TLies.below {f : Nat → ByteArray} {v : Value} {n : Nat} {w w' : World} (h : TLies f v n w) (hb : Below w.heap.size w w') : TLies f v n w' := by
  rcases h with h | ⟨b, cap, h1, h2, h3⟩
  · exact .inl h
  · exact .inr ⟨b, cap, h1, Nat.lt_of_lt_of_le h2 hb.size, fun k hk => keep1 hb h2 (h3 k hk)⟩
theorem TLies.of_own {B n : Nat} {f : Nat → ByteArray} {v : Value} {w : World} (h : w.ownsRow B 9 1 v n (scells f n)) : TLies f v n w := by
  rcases h.2 with ⟨h1, h2⟩ | ⟨g, cap, cur, rfl, hb, _⟩
  · exact .inl ⟨h2, h1⟩
  · refine .inr ⟨g, cap, rfl, (h.lt g rfl).2, fun k hk => ?_⟩
    rw [h.cellAt k (by omega)]
    exact scells_get f n k hk
theorem grown_of_below {w w' : World} (h : Below w.heap.size w w') : w.grownBy w' none := ⟨h.os, h.tape, h.output, h.size, fun k hk _ => h.block k hk⟩
theorem below_of_grown {w w' : World} (h : w.grownBy w' none) : Below w.heap.size w w' := ⟨h.os, h.tape, h.output, h.size, fun k hk => h.block k hk (by simp)⟩
theorem own_below {w w' : World} {base size n : Nat} {e : TypeId} {v : Value} {xs : List Value} (h : w.ownsRow base e size v n xs) (hb : Below w.heap.size w w') : w'.ownsRow base e size v n xs :=
  h.kept (grown_of_below hb) (by cases hv : v.ownBlock <;> simp)
end Go.Proofs.YtcafhmlpmbkhkaaGreatDoor
