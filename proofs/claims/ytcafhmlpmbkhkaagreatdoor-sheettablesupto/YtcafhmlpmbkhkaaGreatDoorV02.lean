import Derived.Test.YtcafhmlpmbkhkaaGreatDoorV01
import Derived.Test.YtcafhmlpmbkhkaaGreatDoorW25
import Derived.Laws.EntriesVeiled
import Derived.Test.YtcafhmlpmbkhkaaGreatDoorW38
import Derived.Test.YtcafhmlpmbkhkaaGreatDoorW28
import Derived.Test.YtcafhmlpmbkhkaaGreatDoorW39
import Derived.Test.YtcafhmlpmbkhkaaGreatDoorW40
/- The columns' sides (67), the columns themselves (69). -/
namespace Go.Proofs.YtcafhmlpmbkhkaaGreatDoor
open Go Go.Shelf Go.ChangeShapes Go.WideShapes Go.ChangeAt Go.RowKit Go.Maps
set_option linter.unusedVariables false
set_option linter.unusedSimpArgs false
theorem kG_flat (L : List Int) : kG.flat L = L.map (Value.int .i64) := by
  induction L with
  | nil => rfl
  | cons a L ih => rw [List.map_cons, ← ih]; rfl
theorem kG_kN (L : List Int) : kG.flat L = kN.flat L := by rw [kG_flat, kN_flat]
theorem midN_same (l : List Int) (j : Nat) (h : l[j]? = some 0) : kN.flat (midN l (j + 1)) = kN.flat (midN l j) := by
  rw [← midN_step l j 0 h]
  have hj : j < l.length := (List.getElem?_eq_some_iff.1 h).1
  have hl : j < (kN.flat (midN l j)).length := by rw [kN_flat, List.length_map, midN_len l j (by omega)]; exact hj
  have e : (kN.flat (midN l j))[j] = .int .i64 0 := by
    have : (kN.flat (midN l j))[j]? = some (.int .i64 0) := by
      rw [kN_flat, List.getElem?_map, midN, List.getElem?_append_right (by rw [List.length_take]; omega), List.length_take, List.getElem?_replicate, if_pos (by omega)]
      rfl
    rw [List.getElem?_eq_getElem hl] at this
    exact Option.some.inj this
  rw [← e, List.set_getElem_self]
/-- a column's side -/
def sdT (t : Int) : Int := if t = 1 ∨ t = 5 then 1 else 0
def sdL (T : List Int) : List Int := T.map sdT
/-- sides being filled -/
structure SdAt (w : World) (l : List Int) (j g : Nat) (wr : World) : Prop where
  own : wr.ownsRow w.heap.size 86 1 (.slice (some ⟨g, 0, none⟩) l.length l.length) l.length (kN.flat (midN l j))
  bel : Below w.heap.size w wr
theorem SdAt.begin (w : World) (l : List Int) (hl : l.length ≤ 70000000000000) : SdAt w l 0 w.heap.size (w.alloc (.cells (madeCells (Value.int .i64 0).cells (l.length * 1)) 86)) := by
  refine ⟨?_, bal (Below.refl _ _) _⟩
  have hs : (madeCells (Value.int .i64 0).cells (l.length * 1)).size = l.length * 1 := by rw [size_madeCells]
  have ho := World.ownsRow_lit (base := w.heap.size) (e := 86) (size := 1) w (madeCells (Value.int .i64 0).cells (l.length * 1)) l.length (Nat.le_refl _) (by unfold maxLen; omega) hs
  have e : (madeCells (Value.int .i64 0).cells (l.length * 1)).toList = kN.flat (midN l 0) := by
    rw [midN_zero, Nat.mul_one]
    show (madeCells #[.int .i64 0] l.length).toList = _
    rw [toList_madeCells_one, kN_flat, List.map_replicate]
  rwa [e] at ho
theorem SdAt.set {w : World} {l : List Int} {j g : Nat} {wr : World} (h : SdAt w l j g wr) {x : Int} (hx : l[j]? = some x) : SdAt w l (j + 1) g (wr.setCell ⟨g, j, none⟩ (.int .i64 x)) := by
  have hg : w.heap.size ≤ g := (h.own.lt g rfl).1
  refine ⟨?_, h.bel.setCell (p := ⟨g, j, none⟩) hg _⟩
  have := (h.own.stored j (.int .i64 x)).1
  rwa [midN_step l j x hx] at this
theorem SdAt.skip {w : World} {l : List Int} {j g : Nat} {wr : World} (h : SdAt w l j g wr) (hx : l[j]? = some 0) : SdAt w l (j + 1) g wr := by
  refine ⟨?_, h.bel⟩
  rw [midN_same l j hx]
  exact h.own
/-- what sidesOf hands back -/
def SidOut (w : World) (T : List Int) (n : Nat) (e : Ending) (w' : World) : Prop :=
  ∃ g, e = .returned (.slice (some ⟨g, 0, none⟩) n n) ∧ Lies kG w' (some ⟨g, 0, none⟩) (sdL T) ∧ (∃ (ys : Array Value) (f : Nat × Nat), w'.heap[g]? = some (Obj.cells ys 86 f)) ∧ Below w.heap.size w w'
set_option maxRecDepth 100000 in
set_option maxHeartbeats 8000000 in
theorem sides_any {w : World} {p : Option Addr} {n c : Nat} {T : List Int} (hT : T.length = n) (hL : Lies kI w p T) (hn : n ≤ 1048576) :
    Calls Tryz.prog 67 #[.slice p n c] w (SidOut w T n) := by
  have hl : (sdL T).length = n := by simp [sdL, hT]
  obtain ⟨w1, hw1⟩ : ∃ W, W = w.alloc (.cells (madeCells (Value.int .i64 0).cells (n * 1)) 86) := ⟨_, rfl⟩
  have hmk := run_mk (z := .int .i64 0) (s := 1) (b := 8) w 110 86 Tryz.underlying110 (by kernel_rfl) n (by omega) (by omega)
  rw [← hw1] at hmk
  have HA0 : Hid (SdAt w (sdL T) 0 w.heap.size w1) := by
    have h := SdAt.begin w (sdL T) (by omega)
    rw [hl, ← hw1] at h
    exact h
  have HX := hide hT; have HL := hide hL; have HLN := hide hl
  clear hT hL hl hw1
  go_enter Tryz.func67, Tryz.ntmps67
  go_wp2_with fail
  go_loopw [11] (fun iv wr => ∃ (k : Nat) (K : Int), k ≤ n ∧ iv = .int .i64 K ∧ K = (k : Int) ∧ Hid (SdAt w (sdL T) k w.heap.size wr)) (fun iv _ => ((n : Int) - intOf iv).toNat)
  case atStart => exact ⟨0, 0, by omega, rfl, rfl, unhide HA0⟩
  case round =>
    obtain ⟨wo, rfl⟩ : ∃ x, x = wr := ⟨wr, rfl⟩
    obtain ⟨k, K, hk, rfl, hK, HA⟩ := hrel
    clear hmk
    by_cases hlt : k < n
    · have hI : K < (n : Int) := by omega
      have hK0 : 0 ≤ K := by omega
      have hKt : K.toNat = k := by omega
      have hkX : k < T.length := by have := unhide HX; omega
      obtain ⟨b, o, ep, hb, hr⟩ := ((unhide HL).below (unhide HA).bel).2 k hkX
      obtain ⟨x, hx⟩ : ∃ x, x = T[k] := ⟨_, rfl⟩
      have hc : wo.cell? ⟨b, o + k, none⟩ = some (.int .i64 x) := by
        have := hr 0 (.int .i64 x) (by rw [hx]; rfl)
        simpa [kI] using this
      have HSD : Hid ((sdL T)[k]? = some (sdT x)) := by show _ = _; rw [sdL, List.getElem?_map, List.getElem?_eq_getElem hkX, ← hx]; rfl
      subst ep
      have HK := hide hK
      clear hK hx hr hb hkX
      have hcell : wo.cell? ⟨w.heap.size, k, none⟩ ≠ none := by
        rw [(unhide HA).own.cellAt k (by have := unhide HLN; omega), kN_flat, List.getElem?_map, List.getElem?_eq_getElem (by rw [midN_len _ _ (by have := unhide HLN; omega)]; have := unhide HLN; omega)]
        simp
      obtain ⟨u3, hu3⟩ := Option.ne_none_iff_exists'.1 hcell
      have fr3 : wo.frozen? ⟨w.heap.size, k, none⟩ = false := (unhide HA).own.frozenAt k
      clear hcell
      by_cases h1 : x = 1
      · subst h1
        have HS : Hid (SdAt w (sdL T) (k + 1) w.heap.size (wo.setCell ⟨w.heap.size, k, none⟩ (.int .i64 1))) := (unhide HA).set (unhide HSD)
        go_wp2_with fail
        exact ⟨⟨k + 1, K + 1, by have := unhide HK; omega, by go_num, by have := unhide HK; omega, unhide HS⟩, by have := unhide HK; simp [intOf]; omega⟩
      · by_cases h5 : x = 5
        · subst h5
          have HS : Hid (SdAt w (sdL T) (k + 1) w.heap.size (wo.setCell ⟨w.heap.size, k, none⟩ (.int .i64 1))) := (unhide HA).set (unhide HSD)
          go_wp2_with fail
          exact ⟨⟨k + 1, K + 1, by have := unhide HK; omega, by go_num, by have := unhide HK; omega, unhide HS⟩, by have := unhide HK; simp [intOf]; omega⟩
        · have HS : Hid (SdAt w (sdL T) (k + 1) w.heap.size wo) := (unhide HA).skip (by rw [unhide HSD, sdT, if_neg (by omega)])
          have q1 : (x == 1) = false := beq_eq_false_iff_ne.2 h1
          have q5 : (x == 5) = false := beq_eq_false_iff_ne.2 h5
          clear h1 h5
          go_wp2_with fail
          exact ⟨⟨k + 1, K + 1, by have := unhide HK; omega, by go_num, by have := unhide HK; omega, unhide HS⟩, by have := unhide HK; simp [intOf]; omega⟩
    · have hI : ¬ K < (n : Int) := by omega
      have HE : Hid (SidOut w T n (.returned (.slice (some ⟨w.heap.size, 0, none⟩) n n)) wo) := by
        have h := unhide HA
        have ek : k = (sdL T).length := by have := unhide HLN; omega
        have ho := h.own
        rw [ek, midN_end, ← kG_kN] at ho
        obtain ⟨ys, hy⟩ := own_obj ho (g := w.heap.size) rfl
        exact ⟨w.heap.size, rfl, own_lies kG_ok rfl ho, ⟨ys, _, hy⟩, h.bel⟩
      clear HA hK
      go_wp2_with fail
      go_ret
      exact unhide HE
/-- a column's function -/
def clV (bd bi : Nat) : Value := .func (.func 155) #[] #[.pointer (some ⟨bd, 0, none⟩), .pointer (some ⟨bi, 0, none⟩)]
/-- columns being filled -/
structure ClAt (w : World) (n bd j g : Nat) (wr : World) : Prop where
  own : ∃ F : List Value, wr.ownsRow w.heap.size 213 1 (.slice (some ⟨g, 0, none⟩) n n) n F ∧ ∀ i, i < j → ∃ bi, F[i]? = some (clV bd bi) ∧ wr.heap[bi]? = some (.cells #[.int .i64 (i : Int)] 3)
  bel : Below w.heap.size w wr
theorem ClAt.begin (w : World) (n bd : Nat) (hn : n ≤ 70000000000000) : ClAt w n bd 0 w.heap.size (w.alloc (.cells (madeCells (Value.nilFunc).cells (n * 1)) 213)) := by
  refine ⟨⟨_, World.ownsRow_lit (base := w.heap.size) (e := 213) (size := 1) w (madeCells (Value.nilFunc).cells (n * 1)) n (Nat.le_refl _) (by unfold maxLen; omega) (by rw [size_madeCells]), fun i hi => by omega⟩, bal (Below.refl _ _) _⟩
theorem ClAt.set {w : World} {n bd j g : Nat} {wr : World} (h : ClAt w n bd j g wr) (hj : j < n) : ClAt w n bd (j + 1) g ((wr.alloc (.cells #[.int .i64 (j : Int)] 3)).setCell ⟨g, j, none⟩ (clV bd wr.heap.size)) := by
  obtain ⟨F, ho, hF⟩ := h.own
  have hg : w.heap.size ≤ g := (ho.lt g rfl).1
  have hgl : g < wr.heap.size := (ho.lt g rfl).2
  have b0 : Below wr.heap.size wr (wr.alloc (.cells #[.int .i64 (j : Int)] 3)) := bal (Below.refl _ _) _
  have ho1 := own_below ho b0
  refine ⟨⟨F.set j (clV bd wr.heap.size), (ho1.stored j _).1, fun i hi => ?_⟩, (h.bel.trans (b0.mono h.bel.size)).setCell (p := ⟨g, j, none⟩) hg _⟩
  have hk : ∀ (bi : Nat) (x : Int), (wr.alloc (.cells #[.int .i64 (j : Int)] 3)).heap[bi]? = some (.cells #[.int .i64 x] 3) → ((wr.alloc (.cells #[.int .i64 (j : Int)] 3)).setCell ⟨g, j, none⟩ (clV bd wr.heap.size)).heap[bi]? = some (.cells #[.int .i64 x] 3) := fun bi x hx => by
    refine (Below.heap_setCell _ _ _ _ (fun e => ?_)).trans hx
    subst e
    exact not_own ho1 hx (by decide) rfl
  by_cases e : i = j
  · subst e
    refine ⟨wr.heap.size, ?_, hk _ _ (heap_new _ _)⟩
    rw [List.getElem?_set_self (by rw [ho.1]; omega)]
  · obtain ⟨bi, h1, h2⟩ := hF i (by omega)
    refine ⟨bi, ?_, hk _ _ ((b0.block bi (Array.getElem?_eq_some_iff.1 h2).1).trans h2)⟩
    rw [List.getElem?_set_ne (fun h => e h.symm)]
    exact h1
/-- what columns hands back -/
def ColOut (w : World) (d n : Nat) (e : Ending) (w' : World) : Prop :=
  ∃ g bd, e = .returned (.slice (some ⟨g, 0, none⟩) n n) ∧ w'.heap[bd]? = some (.cells #[.int .i64 (d : Int)] 83) ∧ (∃ ys, w'.heap[g]? = some (.cells ys 213)) ∧ (∀ i, i < n → ∃ bi, w'.cell? ⟨g, i, none⟩ = some (clV bd bi) ∧ w'.heap[bi]? = some (.cells #[.int .i64 (i : Int)] 3)) ∧ Below w.heap.size w w'
set_option maxRecDepth 100000 in
set_option maxHeartbeats 8000000 in
theorem columns_any {w : World} (d n : Nat) (hn : n ≤ 1048576) : Calls Tryz.prog 69 #[.agg #[.int .i64 (d : Int)], .int .i64 (n : Int)] w (ColOut w d n) := by
  obtain ⟨wb, hwb⟩ : ∃ W, W = w.alloc (.cells #[.int .i64 (d : Int)] 83) := ⟨_, rfl⟩
  have bb : Below w.heap.size w wb := by rw [hwb]; exact bal (Below.refl _ _) _
  have hhb : wb.heap[w.heap.size]? = some (.cells #[.int .i64 (d : Int)] 83) := by rw [hwb]; exact heap_new _ _
  obtain ⟨w1, hw1⟩ : ∃ W, W = wb.alloc (.cells (madeCells (Value.nilFunc).cells (n * 1)) 213) := ⟨_, rfl⟩
  have hmk := run_mk (z := .nilFunc) (s := 1) (b := 8) wb 113 213 Tryz.underlying113 (by kernel_rfl) n (by omega) (by omega)
  rw [← hw1] at hmk
  have HA0 : Hid (ClAt wb n w.heap.size 0 wb.heap.size w1) := by rw [hw1]; exact ClAt.begin wb n w.heap.size (by omega)
  have HBB := hide bb; have HHB := hide hhb
  have hwb' := hwb.symm
  clear hw1 hwb bb hhb
  go_enter Tryz.func69, Tryz.ntmps69
  go_wp2_with fail
  go_loopw [11] (fun iv wr => ∃ (k : Nat) (K : Int), k ≤ n ∧ iv = .int .i64 K ∧ K = (k : Int) ∧ Hid (ClAt wb n w.heap.size k wb.heap.size wr)) (fun iv _ => ((n : Int) - intOf iv).toNat)
  case atStart => exact ⟨0, 0, by omega, rfl, rfl, unhide HA0⟩
  case round =>
    obtain ⟨wo, rfl⟩ : ∃ x, x = wr := ⟨wr, rfl⟩
    obtain ⟨k, K, hk, rfl, hK, HA⟩ := hrel
    clear hmk hwb'
    by_cases hlt : k < n
    · subst hK
      have hI : (k : Int) < (n : Int) := by omega
      have hK0 : 0 ≤ (k : Int) := by omega
      obtain ⟨w2, hw2⟩ : ∃ W, W = wo.alloc (.cells #[.int .i64 (k : Int)] 3) := ⟨_, rfl⟩
      have b2 : Below wo.heap.size wo w2 := by rw [hw2]; exact bal (Below.refl _ _) _
      obtain ⟨F, ho, hF⟩ := (unhide HA).own
      have ho2 := own_below ho b2
      have hcell : w2.cell? ⟨wb.heap.size, k, none⟩ ≠ none := by
        rw [ho2.cellAt k (by omega), List.getElem?_eq_getElem (by rw [ho2.1]; omega)]
        simp
      obtain ⟨u3, hu3⟩ := Option.ne_none_iff_exists'.1 hcell
      have fr3 : w2.frozen? ⟨wb.heap.size, k, none⟩ = false := ho2.frozenAt k
      have hl2 : w2.cell? ⟨wo.heap.size, 0, none⟩ = some (.int .i64 (k : Int)) := by rw [hw2, cell_at (heap_new _ _)]; rfl
      have HS : Hid (ClAt wb n w.heap.size (k + 1) wb.heap.size (w2.setCell ⟨wb.heap.size, k, none⟩ (clV w.heap.size wo.heap.size))) := by rw [hw2]; exact (unhide HA).set hlt
      unfold clV at HS
      have hw2' := hw2.symm
      clear hcell ho2 ho hF hw2 b2
      go_wp2_with fail
      exact ⟨⟨k + 1, (k : Int) + 1, by omega, by go_num, by omega, unhide HS⟩, by simp [intOf]; omega⟩
    · have hI : ¬ K < (n : Int) := by omega
      have HE : Hid (ColOut w d n (.returned (.slice (some ⟨wb.heap.size, 0, none⟩) n n)) wo) := by
        have h := unhide HA
        obtain ⟨F, ho, hF⟩ := h.own
        obtain ⟨ys, hy⟩ := own_obj ho (g := wb.heap.size) rfl
        refine ⟨wb.heap.size, w.heap.size, rfl, (h.bel.block _ (Array.getElem?_eq_some_iff.1 (unhide HHB)).1).trans (unhide HHB), ⟨ys, hy⟩, fun i hi => ?_, (unhide HBB).trans (h.bel.mono (unhide HBB).size)⟩
        obtain ⟨bi, h1, h2⟩ := hF i (by omega)
        refine ⟨bi, ?_, h2⟩
        rw [ho.cellAt i (by omega)]
        exact h1
      clear HA hK
      go_wp2_with fail
      go_ret
      exact unhide HE
end Go.Proofs.YtcafhmlpmbkhkaaGreatDoor
/- The grid's set (68): a row for each of a list of rows of cells. -/
namespace Go.Proofs.YtcafhmlpmbkhkaaGreatDoor
open Go Go.Shelf Go.ChangeShapes Go.WideShapes Go.ChangeAt Go.RowKit Go.Maps
set_option linter.unusedVariables false
set_option linter.unusedSimpArgs false
theorem eg155 (args : Array Value) (w : World) : (callFunc 155 args).run Tryz.prog w = .ok (.enter 155 args) w := by kernel_rfl
/-- columns: closures with two captured things, with what they answer -/
def FnC (X : List Rw) (G : World → Prop) (fv : Value) (f : Rw → Tx) : Prop :=
  ∃ c1 c2, fv = .func (.func 155) #[] #[c1, c2] ∧ ∀ x ∈ X, ∀ W, G W → Calls Tryz.prog 155 #[.slice x.p x.n x.c, c1, c2] W (TxtOut W (f x))
set_option maxRecDepth 100000 in
set_option maxHeartbeats 8000000 in
theorem setW {B : Nat} {w0 : World} {d : Nat} {S : List Int} {R : List (List Tx)} (h : Gr B w0 d S R) {p : Option Addr} {n c : Nat} {X : List Rw} (hX : X.length = n) (hL : ∀ W, Gd B w0 W → Lies kW W p X) {fb fo nf cf : Nat} {FS : List (Value × (Rw → Tx))} (hnf : FS.length = nf)
    (hF : ∀ W, Gd B w0 W → ∀ j q, FS[j]? = some q → W.cell? ⟨fb, fo + j, none⟩ = some q.1) (hfn : ∀ q ∈ FS, FnC X (Gd B w0) q.1 q.2) (hn : R.length + n ≤ 1099511627776) (hf1 : nf ≤ 1048576) :
    Calls Tryz.prog 68 #[.pointer (some ⟨d, 0, none⟩), .slice p n c, .slice (some ⟨fb, fo, none⟩) nf cf] w0 (SetOut B w0 d S R FS X) := by
  have hBw : B ≤ w0.heap.size := by
    obtain ⟨ps, cs, pr, cr, L, g⟩ := h
    exact Nat.le_trans g.low (Nat.le_of_lt (Array.getElem?_eq_some_iff.1 g.cell).1)
  have eg := eg155
  have H := hide h; have HX := hide hX; have HL := hide hL; have HNF := hide hnf; have HF := hide hF; have HFN := hide hfn; have HN := hide hn; have HBW := hide hBw
  have HMK : Hid (∀ W : World, (Instr.makeSlice 93 (.int .i64 (nf : Int)) (.int .i64 (nf : Int))).run Tryz.prog W = .ok (.slice (some ⟨W.heap.size, 0, none⟩) nf nf) (W.alloc (.cells (madeCells (Value.string ⟨#[]⟩).cells (nf * 1)) 9))) := fun W : World => run_mk (z := .string ⟨#[]⟩) (s := 1) (b := 16) W 93 9 Tryz.underlying93 (by kernel_rfl) nf (by omega) (by omega)
  have hn1 : n ≤ 1099511627776 := by omega
  clear h hX hL hnf hF hfn hn hBw
  go_enter Tryz.func68, Tryz.ntmps68
  go_wp2_with fail
  go_loopw [13] (fun iv wr => ∃ (k : Nat) (K : Int), k ≤ n ∧ iv = .int .i64 K ∧ K = (k : Int) ∧ Hid (Gr B wr d S (R ++ (X.take k).map (rowF FS)) ∧ Gd B w0 wr)) (fun iv _ => ((n : Int) - intOf iv).toNat)
  case atStart => exact ⟨0, 0, by omega, rfl, rfl, by simpa using unhide H, Gd.refl _ _⟩
  case round =>
    obtain ⟨wo, rfl⟩ : ∃ x, x = wr := ⟨wr, rfl⟩
    obtain ⟨k, K, hk, rfl, hK, HA⟩ := hrel
    by_cases hlt : k < n
    · have hI : K < (n : Int) := by omega
      have hK0 : 0 ≤ K := by omega
      have hKt : K.toNat = k := by omega
      have hkX : k < X.length := by have := unhide HX; omega
      obtain ⟨b, o, ep, hb, hr⟩ := (unhide HL wo (unhide HA).2).2 k hkX
      obtain ⟨x, hx⟩ : ∃ x, x = X[k] := ⟨_, rfl⟩
      have hc : wo.cell? ⟨b, o + k, none⟩ = some (.slice x.p x.n x.c) := by
        have := hr 0 (.slice x.p x.n x.c) (by rw [hx]; rfl)
        simpa [kW] using this
      have hxm : x ∈ X := by rw [hx]; exact List.getElem_mem hkX
      have HXM := hide hxm
      have HTK : Hid (X.take (k + 1) = X.take k ++ [x]) := by rw [List.take_succ_eq_append_getElem hkX, ← hx]; rfl
      subst ep
      obtain ⟨w2, hw2⟩ : ∃ w2, w2 = wo.alloc (.cells (madeCells (Value.string ⟨#[]⟩).cells (nf * 1)) 9) := ⟨_, rfl⟩
      have hlr : (rowF FS x).length = nf := by rw [rowF_len, unhide HNF]
      have A0 : CsAt wo (rowF FS x) 0 wo.heap.size w2 := by
        have := CsAt.begin wo (rowF FS x) (by omega)
        rwa [hlr, ← hw2] at this
      have HA0 := hide A0
      have HW2 := hide hw2
      have HK := hide hK
      have hmk2 := unhide HMK wo
      rw [← hw2] at hmk2
      have HLR := hide hlr
      clear A0 hw2 hkX hlt hK hlr hxm hx hr hb
      go_wp2_with fail
      go_loopw [22] (fun iv wr => ∃ (j : Nat) (J : Int), j ≤ nf ∧ iv = .int .i64 J ∧ J = (j : Int) ∧ Hid (CsAt wo (rowF FS x) j wo.heap.size wr)) (fun iv _ => ((nf : Int) - intOf iv).toNat)
      case atStart => exact ⟨0, 0, by omega, rfl, rfl, unhide HA0⟩
      case round =>
        obtain ⟨wi, rfl⟩ : ∃ x, x = wr := ⟨wr, rfl⟩
        obtain ⟨j, J, hj, rfl, hJ, HC⟩ := hrel
        clear hmk2
        have hgd : Gd B w0 wi := (unhide HA).2.trans (Gd.of_below (unhide HC).bel (Nat.le_trans (unhide HBW) (unhide HA).2.bel.size))
        by_cases hjl : j < nf
        · have hJl : J < (nf : Int) := by omega
          have hJ0 : 0 ≤ J := by omega
          have hJt : J.toNat = j := by omega
          obtain ⟨q, hq⟩ : ∃ q, FS[j]? = some q := ⟨FS[j]'(by have := unhide HNF; omega), List.getElem?_eq_getElem _⟩
          have hcell := unhide HF wi hgd j q hq
          have hqm := List.mem_of_getElem? hq
          obtain ⟨e1, e2, efv, hcall⟩ := unhide HFN q hqm
          have HTX : Hid ((rowF FS x)[j]? = some (q.2 x)) := by show _ = _; rw [rowF, List.getElem?_map, hq]; rfl
          have HJ := hide hJ
          have dd := hide (hcall x (unhide HXM) wi hgd)
          rw [efv] at hcell
          clear efv hcall hgd hq hqm hJ hc
          go_wp2_with fail
          refine (unhide dd).mono ?_
          rintro e w3 ⟨rfl, hb3⟩
          have hC3 := (unhide HC).below hb3
          have st3 : w3.cell? ⟨wo.heap.size, j, none⟩ ≠ none := by
            rw [hC3.own.cellAt j (by have := unhide HLR; omega), kT_flat, List.getElem?_map, List.getElem?_eq_getElem (by rw [midF_len _ _ (by have := unhide HLR; omega)]; have := unhide HLR; omega)]
            simp
          obtain ⟨u3, hu3⟩ := Option.ne_none_iff_exists'.1 st3
          have fr3 : w3.frozen? ⟨wo.heap.size, j, none⟩ = false := hC3.own.frozenAt j
          have HS := hide (hC3.set (unhide HTX))
          obtain ⟨TX, hTX⟩ : ∃ v, v = txB (q.2 x) := ⟨_, rfl⟩
          rw [← hTX] at HS ⊢
          clear hb3 hC3 st3 dd hcell hTX
          go_wp2_with fail
          exact ⟨⟨j + 1, J + 1, by omega, by go_num, by have := unhide HJ; omega, unhide HS⟩, by simp [intOf]; omega⟩
        · have hJl : ¬ J < (nf : Int) := by omega
          have ej : j = (rowF FS x).length := by have := unhide HLR; omega
          have hC := unhide HC
          rw [ej] at hC
          have hr := hC.row
          rw [unhide HLR] at hr
          have hnR : (R ++ (X.take k).map (rowF FS)).length + 1 ≤ 1099511627776 := by
            have := unhide HN; have := unhide HX; have := unhide HK
            rw [List.length_append, List.length_map, List.length_take]
            omega
          have D := hide (add_any ((unhide HA).1.below hC.bel) hr hnR)
          have HGD := hide hgd
          clear hr hC hJ hgd ej hnR
          go_wp2_with fail
          refine (unhide D).mono ?_
          rintro e w3 ⟨⟨v3, rfl⟩, hg3, hd3⟩
          have HE : Hid (Gr B w3 d S (R ++ (X.take (k + 1)).map (rowF FS)) ∧ Gd B w0 w3) := by
            refine ⟨?_, (unhide HGD).trans hd3⟩
            rw [unhide HTK, List.map_append, ← List.append_assoc]
            exact hg3
          clear hg3 hd3 D
          go_wp2_with fail
          exact ⟨⟨k + 1, K + 1, by have := unhide HK; omega, by go_num, by have := unhide HK; omega, unhide HE⟩, by have := unhide HK; simp [intOf]; omega⟩
    · have hI : ¬ K < (n : Int) := by omega
      have HE : Hid (Gr B wo d S (R ++ X.map (rowF FS)) ∧ Gd B w0 wo) := by
        have h1 := unhide HA
        rw [List.take_of_length_le (by have := unhide HX; omega)] at h1
        exact h1
      clear HA hK
      go_wp2_with fail
      go_end0
      exact ⟨⟨_, rfl⟩, unhide HE⟩
end Go.Proofs.YtcafhmlpmbkhkaaGreatDoor
/- A table: what it says. -/
namespace Go.Proofs.YtcafhmlpmbkhkaaGreatDoor
open Go Go.Shelf Go.ChangeShapes Go.WideShapes Go.ChangeAt Go.RowKit Go.Maps
set_option linter.unusedVariables false
set_option linter.unusedSimpArgs false
/-- a row's texts -/
noncomputable def rowB (d : Nat) (r : Rw) : List Tx := r.x.map (cTx d)
noncomputable def rowsB (d : Nat) (X : List Rw) : List (List Tx) := X.map (rowB d)
/-- why there is none -/
def errB (dg : Int) (T : List Int) (X : List Rw) : Int :=
  if dg < 0 ∨ 6 < dg then 1 else if fstG faultT T ≠ 0 then fstG faultT T else fstG (fun r => faultR T r.x) X
noncomputable def ansB (dg : Int) (T : List Int) (X : List Rw) : Tx × Int := if errB dg T X = 0 then (gridT (rgt (sdL T)) (rowsB dg.toNat X), 0) else ([], errB dg T X)
theorem frow_len {T : List Int} {X : List Ce} (h : faultR T X = 0) : X.length = T.length := by
  unfold faultR at h
  by_cases e : X.length = T.length
  · exact e
  · rw [if_neg e] at h
    exact absurd h (by decide)
theorem frow_fine {T : List Int} {X : List Ce} (h : faultR T X = 0) (hok : ∀ x ∈ X, CeOk x) : ∀ x ∈ X, CeFine x := fun x hx => by
  have e := frow_len h
  unfold faultR at h
  rw [if_pos e] at h
  obtain ⟨k, hk, rfl⟩ := List.mem_iff_getElem.1 hx
  have hf := fltZ_zero h k X[k] (T[k]'(by omega)) (List.getElem?_eq_getElem hk) (List.getElem?_eq_getElem (by omega))
  have ht := faultC_ty hf
  rw [← ht] at hf
  exact cfine_of (hok _ hx) hf
theorem itoa_short {n : Int} (h1 : -9223372036854775808 ≤ n) (h2 : n ≤ 9223372036854775807) : (Lib.itoa n).length ≤ 100 := by
  have := Lib.itoa_length_le n h1 h2
  omega
theorem cTx_len {d : Nat} (hd : d ≤ 6) {x : Ce} (h : CeFine x) : (cTx d x).length ≤ 1048676 := by
  unfold cTx
  split
  · have := h.str
    have e : x.str.data.toList.length = x.str.size := by simp
    simp only [Array.length_toList] at e ⊢
    omega
  · split
    · have := dtx_len x.num; omega
    · split
      · unfold booT
        split <;> simp
      · split
        · have := txt_len x.num d hd; omega
        · have := itoa_short h.num.1 h.num.2; omega
/-- the rows' lengths and their number -/
theorem sum_rows {X : List Rw} {n : Nat} (h : ∀ r ∈ X, r.x.length = n) : (X.map fun r => r.x.length + 1).sum = X.length * (n + 1) := by
  induction X with
  | nil => simp
  | cons r X ih =>
    rw [List.map_cons, List.sum_cons, ih (fun r hr => h r (by simp [hr])), h r (by simp), List.length_cons, Nat.succ_mul]
    omega
theorem tab_size {R n : Nat} (h : R * (n + 1) ≤ 1048576) (hn : n ≤ 1048576) : (R + 1) * (n * (1048676 + 2) + 1) ≤ 140737488355328 := by
  have e : (R + 1) * (n * (1048676 + 2) + 1) = R * n * 1048678 + R + n * 1048678 + 1 := by
    show (R + 1) * (n * 1048678 + 1) = _
    rw [Nat.succ_mul, Nat.mul_add, Nat.mul_one, Nat.mul_assoc]
    omega
  have h2 : R * n + R ≤ 1048576 := by rw [Nat.mul_add, Nat.mul_one] at h; exact h
  rw [e]
  omega
end Go.Proofs.YtcafhmlpmbkhkaaGreatDoor
/- The program's Table (16). -/
namespace Go.Proofs.YtcafhmlpmbkhkaaGreatDoor
open Go Go.Shelf Go.ChangeShapes Go.WideShapes Go.ChangeAt Go.RowKit Go.Maps
set_option linter.unusedVariables false
set_option linter.unusedSimpArgs false
def dflC : Ce := ⟨0, 0, ⟨#[]⟩⟩
/-- the columns, as they are set -/
noncomputable def colsB (d n bd : Nat) (L : List Nat) : List (Value × (Rw → Tx)) := (List.range n).map fun j => (clV bd (L.getD j 0), fun r => cTx d (r.x.getD j dflC))
theorem colsB_len (d n bd : Nat) (L : List Nat) : (colsB d n bd L).length = n := by simp [colsB]
theorem colsB_get {d n bd : Nat} {L : List Nat} {j : Nat} {q : Value × (Rw → Tx)} (h : (colsB d n bd L)[j]? = some q) : j < n ∧ q = (clV bd (L.getD j 0), fun r => cTx d (r.x.getD j dflC)) := by
  have hj : j < n := by
    have := (List.getElem?_eq_some_iff.1 h).1
    rwa [colsB_len] at this
  refine ⟨hj, ?_⟩
  rw [colsB, List.getElem?_map, List.getElem?_range hj] at h
  exact (Option.some.inj h).symm
theorem colsB_row {d n bd : Nat} {L : List Nat} {r : Rw} (h : r.x.length = n) : rowF (colsB d n bd L) r = rowB d r := by
  apply List.ext_getElem?
  intro j
  rw [rowF, List.getElem?_map, colsB, List.getElem?_map, rowB, List.getElem?_map]
  by_cases hj : j < n
  · rw [List.getElem?_range hj, List.getElem?_eq_getElem (show j < r.x.length by omega)]
    simp only [Option.map_some]
    rw [List.getD_eq_getElem?_getD, List.getElem?_eq_getElem (show j < r.x.length by omega)]
    rfl
  · rw [List.getElem?_eq_none (show (List.range n).length ≤ j by simp; omega), List.getElem?_eq_none (show r.x.length ≤ j by omega)]
    rfl
set_option maxRecDepth 100000 in
set_option maxHeartbeats 16000000 in
theorem table_any {w : World} (hP : Kg.Pw w) (hM : Dy.Mon w) {pt : Option Addr} {nt ct : Nat} {T : List Int} (hT : T.length = nt) (hLT : Lies kI w pt T) {pr : Option Addr} {nr cr : Nat} {X : List Rw} (hX : X.length = nr) (hLX : Lies kW w pr X) (hR : RwAt w X)
    (hok : ∀ r ∈ X, ∀ x ∈ r.x, CeOk x) (hnt : nt ≤ 1048576) (hnr : nr ≤ 1048576) (hnx : ∀ r ∈ X, r.n ≤ 1048576) (hsum : (X.map fun r => r.x.length + 1).sum ≤ 1048576) (dg : Int) (hdg : fits64 dg) :
    Calls Tryz.prog 16 #[.agg #[.slice pt nt ct, .slice pr nr cr], .int .i64 dg] w (TriOut w (ansB dg T X)) := by
  obtain ⟨w1, hw1⟩ : ∃ W, W = w.alloc (.cells #[.slice pt nt ct, .slice pr nr cr] 36) := ⟨_, rfl⟩
  have b1 : Below w.heap.size w w1 := by rw [hw1]; exact bal (Below.refl _ _) _
  have hh1 : w1.heap[w.heap.size]? = some (.cells #[.slice pt nt ct, .slice pr nr cr] 36) := by rw [hw1]; exact heap_new _ _
  have HH : Hid (∀ W, Below w1.heap.size w1 W → W.cell? ⟨w.heap.size, 0, none⟩ = some (.slice pt nt ct) ∧ W.cell? ⟨w.heap.size, 1, none⟩ = some (.slice pr nr cr)) := fun W hb => by
    have h := (hb.block _ (Array.getElem?_eq_some_iff.1 hh1).1).trans hh1
    exact ⟨by rw [cell_at h]; rfl, by rw [cell_at h]; rfl⟩
  have l0 := (unhide HH w1 (Below.refl _ _)).1
  have HB1 := hide b1
  have hw1' := hw1.symm
  by_cases hbad : dg < 0 ∨ 6 < dg
  · have HE : Hid (ansB dg T X = ([], 1)) := by
      have e : errB dg T X = 1 := by unfold errB; rw [if_pos hbad]
      show _ = _
      unfold ansB
      rw [e, if_neg (by decide)]
    have D := hide (digits_no dg w1 hbad)
    clear hw1 b1 hh1 hbad hX hT hLT hLX hR hok hsum hP hM hnx
    go_enter Tryz.func16, Tryz.ntmps16
    go_wp2_with (go_at_call 37; refine (unhide D).mono ?_; rintro e wz ⟨rfl, hwz⟩; rw [hwz]; clear hwz wz)
    go_ret2
    exact ⟨by rw [unhide HE]; rfl, unhide HB1⟩
  · have D := hide (digits_yes dg w1 (by omega) (by omega))
    obtain ⟨d, rfl⟩ : ∃ d : Nat, dg = (d : Int) := ⟨dg.toNat, by omega⟩
    have hd : d ≤ 6 := by omega
    have hE0 : Hid (errB (d : Int) T X = if fstG faultT T ≠ 0 then fstG faultT T else fstG (fun r => faultR T r.x) X) := by
      show _ = _
      unfold errB
      rw [if_neg hbad]
    have DF1 := fltI (c := ct) hT (hLT.below b1) hnt
    obtain ⟨F1, hF1⟩ : ∃ z, z = fstG faultT T := ⟨_, rfl⟩
    rw [← hF1] at DF1
    have DF1 := hide DF1
    have HF1 := hide hF1
    by_cases hz1 : F1 = 0
    · subst hz1
      have DF2 : Hid (∀ W, Below w1.heap.size w1 W → Calls Tryz.prog 64 #[.slice pr nr cr, .func (.func 65) #[] #[.pointer (some ⟨w.heap.size, 0, none⟩)]] W fun e w' => e = .returned (.int .i64 (fstG (fun r => faultR T r.x) X)) ∧ Below W.heap.size W w') := fun W hb => by
        have hbw := b1.trans (hb.mono b1.size)
        refine fltW (c := cr) hX (hLX.below hbw) (fun x hx V hV => ?_) hnr
        have hbv := hbw.trans (hV.mono hbw.size)
        exact tfault_clo (c := x.c) (hR x hx).1 ((hR x hx).2.below hbv) hT (hLT.below hbv) (hok x hx) (hnx x hx) hnt (unhide HH V (hb.trans (hV.mono hb.size))).1
      obtain ⟨F2, hF2⟩ : ∃ z, z = fstG (fun r => faultR T r.x) X := ⟨_, rfl⟩
      rw [← hF2] at DF2
      have HF2 := hide hF2
      by_cases hz2 : F2 = 0
      · subst hz2
        have HEQ : Hid (ansB (d : Int) T X = (gridT (rgt (sdL T)) (rowsB d X), 0)) := by
          have e : errB (d : Int) T X = 0 := by rw [unhide hE0, if_neg (by rw [← hF1]; simp), ← hF2]
          show _ = _
          unfold ansB
          rw [if_pos e]
          rfl
        have hfr : ∀ r ∈ X, faultR T r.x = 0 := fun r hr => fstG_zero (f := fun r => faultR T r.x) hF2.symm r hr
        have hlen : ∀ r ∈ X, r.x.length = nt := fun r hr => by rw [frow_len (hfr r hr), hT]
        have hfine : ∀ r ∈ X, ∀ x ∈ r.x, CeFine x := fun r hr => frow_fine (hfr r hr) (hok r hr)
        have hsz : nr * (nt + 1) ≤ 1048576 := by rw [← hX, ← sum_rows hlen]; exact hsum
        have HX := hide hX; have HT := hide hT; have HLT := hide hLT; have HLX := hide hLX; have HR := hide hR; have HLEN := hide hlen; have HFI := hide hfine; have HSZ := hide hsz; have HP := hide hP; have HM := hide hM
        have hdn : ¬ ((d : Int) < 0) := by omega
        clear hw1 b1 hh1 hX hT hLT hLX hR hok hsum hP hM hfr hlen hfine hsz hF1 hF2 hbad hdg
        have hnx' := hide hnx
        clear hnx
        go_enter Tryz.func16, Tryz.ntmps16
        go_wp2_with first | (go_at_call 37; refine (unhide D).mono ?_; rintro e wz ⟨rfl, hwz⟩; rw [hwz]; clear hwz wz) | (go_at_call 62; refine (unhide DF1).mono ?_; rintro e w2 ⟨rfl, hb2⟩; have HB2 := hide hb2; have df := hide (unhide DF2 w2 hb2); have l2 := (unhide HH w2 hb2).2; clear hb2 l0)
        refine (unhide df).mono ?_
        rintro e w3 ⟨rfl, hb3⟩
        have hb13 : Below w1.heap.size w1 w3 := (unhide HB2).trans (hb3.mono (unhide HB2).size)
        have HB3 := hide hb13
        have l3 := (unhide HH w3 hb13).1
        have DS := hide (sides_any (c := ct) (unhide HT) ((unhide HLT).below ((unhide HB1).trans (hb13.mono (unhide HB1).size))) hnt)
        clear hb3 hb13 df DF1 DF2 l2
        go_wp2_with (go_at_call 67; refine (unhide DS).mono ?_; rintro e w4 ⟨gs, rfl, hls, hbs, hb4⟩)
        have hb14 : Below w1.heap.size w1 w4 := (unhide HB3).trans (hb4.mono (unhide HB3).size)
        have HB4 := hide hb14
        have hls' : (sdL T).length = nt := by have := unhide HT; simp [sdL]; omega
        have DN := newGrid_any (cs := nt) hls (fun a ha => by cases ha; exact hbs)
        rw [hls'] at DN
        have DN := hide DN
        have HLS := hide hls'
        clear DS hls hbs hb4 hb14 l3 hls'
        go_wp2_with fail
        refine (unhide DN).mono ?_
        rintro e w5 ⟨gd, rfl, hg5, hb5⟩
        have hb15 : Below w1.heap.size w1 w5 := (unhide HB4).trans (hb5.mono (unhide HB4).size)
        have HB5 := hide hb15
        have HG5 := hide hg5
        obtain ⟨B, hB⟩ : ∃ B, B = w4.heap.size := ⟨_, rfl⟩
        rw [← hB] at HG5
        have HBL : Hid (B ≤ w5.heap.size ∧ w1.heap.size ≤ B) := by refine ⟨by rw [hB]; exact hb5.size, by rw [hB]; exact (unhide HB4).size⟩
        clear hb5 hb15 hg5 DN hB
        have hs0 := unhide HH w5.drew ((unhide HB5).trans ((below_drewN (Below.refl _ _) 1).mono (unhide HB5).size))
        go_upto_region 10 with fail
        refine wp_region_last (n := 10) (S := fun W => W.cell? ⟨w.heap.size, 0, none⟩ = some (.slice pt nt ct) ∧ W.cell? ⟨w.heap.size, 1, none⟩ = some (.slice pr nr cr)) (by kernel_rfl) hs0 (fun hHeld => ?_)
        clear hs0
        refine tkW 0 ?_; refine tkW 1 ?_
        refine tkN 2 ?_ (hy := by (refine Or.inl ⟨by rfl, ?_⟩; intro W hSW; obtain ⟨hA, hB⟩ := hSW; go_simp; try with_reducible rfl))
        refine tkW 3 ?_; refine tkW 4 ?_; refine tkW 5 ?_
        refine tkN 6 ?_ (hy := by (refine Or.inl ⟨by rfl, ?_⟩; intro W hSW; obtain ⟨hA, hB⟩ := hSW; go_simp; try with_reducible rfl))
        refine tkW 7 ?_
        clear hHeld
        have DC := hide (columns_any (w := w5.drewN 1) d nt hnt)
        refine wpAnyL_one (i := 8) (by kernel_rfl) rfl (fun KK hK => ?_)
        go_simp
        go_wp2_with (go_at_call 69; refine (unhide DC).mono ?_; rintro e w6 ⟨gc, bd, rfl, hbd, ⟨yc, hyc⟩, hcl, hb6⟩)
        have hb56 : Below w5.heap.size w5 w6 := (below_drewN (Below.refl _ _) 1).trans hb6
        have hb16 : Below w1.heap.size w1 w6 := (unhide HB5).trans (hb56.mono (unhide HB5).size)
        have HB6 := hide hb16
        obtain ⟨LB, hLBn, hLB⟩ := choose_list nt hcl
        have hG6 : Gr B w6 gd (sdL T) [] := (unhide HG5).below hb56
        have hB6 : B ≤ w6.heap.size ∧ w1.heap.size ≤ B := ⟨Nat.le_trans (unhide HBL).1 hb56.size, (unhide HBL).2⟩
        have HB6L := hide hB6
        have hbB : ∀ W, Gd B w6 W → Below w.heap.size w W := fun W hW => ((unhide HB1).trans (hb16.mono (unhide HB1).size)).trans (hW.bel.mono (Nat.le_trans (unhide HB1).size hB6.2))
        have DW : Calls Tryz.prog 68 #[.pointer (some ⟨gd, 0, none⟩), .slice pr nr cr, .slice (some ⟨gc, 0, none⟩) nt nt] w6 (SetOut B w6 gd (sdL T) [] (colsB d nt bd LB) X) := by
          refine setW hG6 (unhide HX) (fun W hW => (unhide HLX).below (hbB W hW)) (colsB_len d nt bd LB) (fun W hW j q hq => ?_) (fun q hq => ?_) (by show 0 + nr ≤ _; omega) hnt
          · obtain ⟨hj, rfl⟩ := colsB_get hq
            obtain ⟨h1, h2⟩ := hLB j (by omega)
            have hk := hW.kept gc yc 213 (0, 0) hyc (by decide) (by decide)
            rw [Nat.zero_add]
            have e : LB.getD j 0 = LB[j]'(by omega) := by rw [List.getD_eq_getElem?_getD, List.getElem?_eq_getElem (by omega)]; rfl
            rw [cell_at hyc] at h1
            rw [cell_at (hk.trans hyc), h1]
            show some (clV bd LB[j]) = some (clV bd (LB.getD j 0))
            rw [e]
          · obtain ⟨j, hjq⟩ := List.mem_iff_getElem?.1 hq
            obtain ⟨hj, rfl⟩ := colsB_get hjq
            refine ⟨_, _, rfl, fun x hx W hW => ?_⟩
            obtain ⟨h1, h2⟩ := hLB j (by omega)
            have e : LB.getD j 0 = LB[j]'(by omega) := by rw [List.getD_eq_getElem?_getD, List.getElem?_eq_getElem (by omega)]; rfl
            have hk1 := (hW.kept bd _ 83 (0, 0) hbd (by decide) (by decide)).trans hbd
            have hk2 := (hW.kept _ _ 3 (0, 0) h2 (by decide) (by decide)).trans h2
            have hxl := unhide HLEN x hx
            have hlj : j < x.x.length := by omega
            have eg : x.x[j]? = some (x.x.getD j dflC) := by rw [List.getD_eq_getElem?_getD, List.getElem?_eq_getElem hlj]; rfl
            refine cell_clo (c := x.c) (unhide HR x hx).1 ((unhide HR x hx).2.below (hbB W hW)) d hd (unhide HFI x hx) ((unhide HP).below (hbB W hW)) ((unhide HM).below (hbB W hW)) eg (unhide hnx' x hx) (by rw [cell_at hk1]; rfl) ?_
            show W.cell? ⟨LB.getD j 0, 0, none⟩ = _
            rw [e, cell_at hk2]
            rfl
        have DW := hide DW
        have HBD := hide hbB
        have hs6 := unhide HH w6 hb16
        refine hK.out _ _ hs6 (fun hHeld => ?_)
        clear hK KK hs6 DC hbd hyc hcl hb6 hb56 hb16 hLB hLBn hG6 hB6 hbB
        refine wpAnyL_one (i := 9) (by kernel_rfl) rfl (fun KK hK => ?_)
        go_simp
        go_wp2_with (go_at_call 68; refine (unhide DW).mono ?_; rintro e w7 ⟨⟨v7, rfl⟩, hG7, hd7⟩)
        have hbw7 := unhide HBD w7 hd7
        have hrows : [] ++ X.map (rowF (colsB d nt bd LB)) = rowsB d X := by
          rw [List.nil_append]
          exact List.map_congr_left fun r hr => colsB_row (unhide HLEN r hr)
        rw [hrows] at hG7
        have hs7 : w7.cell? ⟨w.heap.size, 0, none⟩ = some (.slice pt nt ct) ∧ w7.cell? ⟨w.heap.size, 1, none⟩ = some (.slice pr nr cr) := by
          refine unhide HH w7 ((unhide HB6).trans (hd7.bel.mono (unhide HB6L).2))
        have HG7 := hide hG7; have HBW7 := hide hbw7
        refine hK.out _ _ hs7 (fun hHeld => ?_)
        clear hK KK hs7 hd7 hrows hbw7 DW HBD
        refine wpAnyL_done (by kernel_rfl) ?_
        have DG := (gtext_of (unhide HG7) (by rw [unhide HLS]; exact hnt) (fun r hr => by
            rw [unhide HLS]
            obtain ⟨x, hx, rfl⟩ := List.mem_map.1 hr
            show (x.x.map (cTx d)).length ≤ nt
            rw [List.length_map, unhide HLEN x hx]
            exact Nat.le_refl _) (M := 1048676) (fun r hr t ht => by
            obtain ⟨x, hx, rfl⟩ := List.mem_map.1 hr
            obtain ⟨y, hy, rfl⟩ := List.mem_map.1 ht
            exact cTx_len hd (unhide HFI x hx y hy)) (by decide) (by
            rw [show (rowsB d X).length = nr by rw [rowsB, List.length_map, unhide HX], unhide HLS]
            exact tab_size (unhide HSZ) hnt) (by rw [show (rowsB d X).length = nr by rw [rowsB, List.length_map, unhide HX]]; omega))
        have DG := hide DG
        clear hG7
        go_wp2_with fail
        refine (unhide DG).mono ?_
        rintro e w8 ⟨rfl, hb8⟩
        have HB8 : Hid (Below w.heap.size w w8) := (unhide HBW7).trans (hb8.mono (unhide HBW7).size)
        clear hb8 DG
        go_wp2_with fail
        go_ret2
        exact ⟨by rw [unhide HEQ]; rfl, unhide HB8⟩
      · have hFb : (F2 != 0) = true := by rw [bne_iff_ne]; exact hz2
        have HE : Hid (ansB (d : Int) T X = ([], F2)) := by
          have e : errB (d : Int) T X = F2 := by rw [unhide hE0, if_neg (by rw [← hF1]; simp), ← hF2]
          show _ = _
          unfold ansB
          rw [e, if_neg hz2]
        clear hw1 b1 hh1 hX hT hLT hLX hR hok hsum hP hM hnx hF1 hF2 hbad hdg
        go_enter Tryz.func16, Tryz.ntmps16
        go_wp2_with first | (go_at_call 37; refine (unhide D).mono ?_; rintro e wz ⟨rfl, hwz⟩; rw [hwz]; clear hwz wz) | (go_at_call 62; refine (unhide DF1).mono ?_; rintro e w2 ⟨rfl, hb2⟩; have HB2 := hide hb2; have df := hide (unhide DF2 w2 hb2); have l2 := (unhide HH w2 hb2).2; clear hb2 l0)
        refine (unhide df).mono ?_
        rintro e w3 ⟨rfl, hb3⟩
        have hb13 : Below w1.heap.size w1 w3 := (unhide HB2).trans (hb3.mono (unhide HB2).size)
        have HB3 := hide hb13
        clear hb3 hb13 DF2 l2 DF1
        go_wp2_with fail
        go_ret2
        exact ⟨by rw [unhide HE]; rfl, (unhide HB1).trans ((unhide HB3).mono (unhide HB1).size)⟩
    · have hFb : (F1 != 0) = true := by rw [bne_iff_ne]; exact hz1
      have HE : Hid (ansB (d : Int) T X = ([], F1)) := by
        have e : errB (d : Int) T X = F1 := by rw [unhide hE0, ← hF1, if_pos hz1]
        show _ = _
        unfold ansB
        rw [e, if_neg hz1]
      clear hw1 b1 hh1 hX hT hLT hLX hR hok hsum hP hM hnx hF1 hbad hdg
      go_enter Tryz.func16, Tryz.ntmps16
      go_wp2_with first | (go_at_call 37; refine (unhide D).mono ?_; rintro e wz ⟨rfl, hwz⟩; rw [hwz]; clear hwz wz) | (go_at_call 62; refine (unhide DF1).mono ?_; rintro e w2 ⟨rfl, hb2⟩; have HB2 := hide hb2; clear hb2 l0)
      go_ret2
      exact ⟨by rw [unhide HE]; rfl, (unhide HB1).trans ((unhide HB2).mono (unhide HB1).size)⟩
end Go.Proofs.YtcafhmlpmbkhkaaGreatDoor
