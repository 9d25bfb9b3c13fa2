/- daily: the view in memory; put (19). -/
import Derived.Test.YtenoaechonpjgaaDoorDlI
namespace Go.Proofs.YtenoaechonpjgaaDoor
open Go Go.Shelf Go.ChangeShapes Go.WideShapes Go.ChangeAt Go.RowKit Go.Maps
set_option linter.unusedVariables false
/-- the accounts: a map, or none yet -/
def AcAt (w : World) (B n : Nat) (mo : Option Nat) (F : List UInt8 → List Mk) (V : List UInt8 → Value) : Prop :=
  (mo = none ∧ (∀ k, F k = []) ∧ ∀ k, V k = .slice none 0 0) ∨ ∃ b D, mo = some b ∧ B ≤ b ∧ MSAt kM w B b n D F V
theorem AcAt.row {w : World} {B n : Nat} {mo : Option Nat} {F : List UInt8 → List Mk} {V : List UInt8 → Value} (h : AcAt w B n mo F V) (k : List UInt8) : w.ownsRow B 82 3 (V k) (F k).length (kM.flat (F k)) := by
  rcases h with ⟨_, h1, h2⟩ | ⟨b, D, _, _, h⟩
  · rw [h1, h2]; exact World.ownsRow_nil _ _ _ _
  · exact h.row k
/-- the view's cell -/
def DvAt (w : World) (B d n : Nat) (mo : Option Nat) (F : List UInt8 → List Mk) (V : List UInt8 → Value) : Prop :=
  w.heap[d]? = some (.cells #[.map mo] 48 (0, 0)) ∧ d < B ∧ AcAt w B n mo F V
theorem DvAt.c0 {w : World} {B d n : Nat} {mo : Option Nat} {F : List UInt8 → List Mk} {V : List UInt8 → Value} (h : DvAt w B d n mo F V) : w.cell? ⟨d, 0, none⟩ = some (.map mo) ∧ w.frozen? ⟨d, 0, none⟩ = false := by
  have := h.1
  simp [World.cell?, World.frozen?, this]
/-- what put leaves: the view with one name's list another one -/
def PutOut (W : World) (B d n : Nat) (mo : Option Nat) (F : List UInt8 → List Mk) (V : List UInt8 → Value) (s : List UInt8) (L : List Mk) (v : Value) (w' : World) : Prop :=
  ∃ mo', (mo' = mo ∨ mo' = some W.heap.size) ∧ DvAt w' B d (n + 1) mo' (fun k => if k = s then L else F k) (fun k => if k = s then v else V k) ∧ W.heap.size ≤ w'.heap.size ∧ w'.os = W.os ∧ w'.tape = W.tape ∧ w'.output = W.output ∧ ∀ g, g < W.heap.size → g ≠ d → mo ≠ some g → w'.heap[g]? = W.heap[g]?
theorem und46 : Tryd.prog.underlying 46 = some (.map 9 55) := Tryd.underlying46
theorem eq46 (mo : Option Nat) (w : World) : (binOp .eql 46 (.map mo) (.map none)).run Tryd.prog w = .ok (.bool mo.isNone) w := by
  simp only [binOp]
  simp [run_equal_map_nil w 46 9 55 mo und46]
set_option maxRecDepth 100000 in
set_option maxHeartbeats 4000000 in
theorem put_any0 {w0 W : World} {B d n : Nat} {mo : Option Nat} {F : List UInt8 → List Mk} {V : List UInt8 → Value} (hV0 : DvAt w0 B d n mo F V) (hd : W.heap[d]? = some (.cells #[.map mo] 48 (0, 0))) (hmb : ∀ b, mo = some b → W.heap[b]? = w0.heap[b]?) (hB : B ≤ W.heap.size) (hn : n + 1 < maxLen) {s : ByteArray} (hs : s.size ≤ maxLen) {p : Option Addr} {m c : Nat} {L : List Mk} (hm : L.length = m) (hm2 : m ≤ 1099511627776) (hv : W.ownsRow B 82 3 (.slice p m c) m (kM.flat L)) (hrw : ∀ k, k ≠ s.data.toList → W.ownsRow B 82 3 (V k) (F k).length (kM.flat (F k))) (hap : ∀ k, k ≠ s.data.toList → F k ≠ [] → (V k).ownBlock ≠ (Value.slice p m c).ownBlock) :
    Calls Tryd.prog 19 #[.pointer (some ⟨d, 0, none⟩), .string s, .slice p m c] W fun e w' => e = .returned (.tuple #[]) ∧ PutOut W B d n mo F V s.data.toList L (if L = [] then .slice none 0 0 else .slice p m c) w' := by
  have hc0 : W.cell? ⟨d, 0, none⟩ = some (.map mo) := by simp [World.cell?, hd]
  have hf0 : W.frozen? ⟨d, 0, none⟩ = false := by simp [World.frozen?, hd]
  have hdB : d < B := hV0.2.1
  by_cases hL : L = []
  · rw [if_pos hL]
    subst hL
    have hm0 : m = 0 := by simpa using hm.symm
    subst hm0
    rcases hV0.2.2 with ⟨h1, hF0, hVn⟩ | ⟨b, D, rfl, hbB, hA⟩
    · subst h1
      have hrun := Maps.drop_nil (w := W) (string_keyed Tryd.underlying9) und46 (keyM hs) 0
      have hfin : PutOut W B d n none F V s.data.toList [] (.slice none 0 0) W := by
        refine ⟨none, .inl rfl, ⟨hd, hdB, .inl ⟨rfl, fun k => ?_, fun k => ?_⟩⟩, Nat.le_refl _, rfl, rfl, rfl, fun _ _ _ _ => rfl⟩
        · by_cases e : k = s.data.toList
          · simp only [if_pos e]
          · simp only [if_neg e]; exact hF0 k
        · by_cases e : k = s.data.toList
          · simp only [if_pos e]
          · simp only [if_neg e]; exact hVn k
      have HFIN := hide hfin
      clear hfin hv hap hrw hV0
      go_enter Tryd.func19, Tryd.ntmps19
      go_wp2_with fail
      refine bodyPost_ret (v := .tuple #[]) (by simp [results, Tryd.results19]) rfl ?_
      exact ⟨rfl, unhide HFIN⟩
    · have hmapW : W.ownsMap Tryd.prog 9 sliceElem b n D := by
        obtain ⟨es, clock, hb, r⟩ := hA.map
        exact ⟨es, clock, (hmb b rfl).trans hb, r⟩
      obtain ⟨w', D', hrun, hA', hg⟩ := hA.del0 (t := 46) hmapW und46 hs hrw 0
      have hfin : PutOut W B d n (some b) F V s.data.toList [] (.slice none 0 0) w' := by
        have hbd : d ≠ b := fun e => by have := hdB; omega
        refine ⟨some b, .inl rfl, ⟨(hg.block d (Nat.lt_of_lt_of_le hdB hB) (fun e => hbd (Option.some.inj e))).trans hd, hdB, .inr ⟨b, D', rfl, hbB, ⟨hA'.map.mono (Nat.le_succ _), hA'.val, hA'.key, hA'.row, hA'.nil, hA'.apart⟩⟩⟩, hg.size, hg.os, hg.tape, hg.output, fun g hgs _ hne => hg.block g hgs (fun e => hne e.symm)⟩
      have HFIN := hide hfin
      clear hfin hA' hg hA hv hap hrw hV0
      go_enter Tryd.func19, Tryd.ntmps19
      go_wp2_with fail
      refine bodyPost_ret (v := .tuple #[]) (by simp [results, Tryd.results19]) rfl ?_
      exact ⟨rfl, unhide HFIN⟩
  · rw [if_neg hL]
    have hm1 : 0 < m := by rw [← hm]; exact List.length_pos_iff.2 hL
    rcases hV0.2.2 with ⟨rfl, hF0, hV0⟩ | ⟨b, D, rfl, hbB, hA⟩
    · obtain ⟨W1, hW1⟩ : ∃ W1, W1 = W.setCell ⟨d, 0, none⟩ (.map (some W.heap.size)) := ⟨_, rfl⟩
      obtain ⟨W2, hW2⟩ : ∃ W2, W2 = W1.alloc (.map #[] 0) := ⟨_, rfl⟩
      have hdW : d < W.heap.size := Nat.lt_of_lt_of_le hdB hB
      have hs1 : W1.heap.size = W.heap.size := by rw [hW1]; simp
      have hs2 : W2.heap.size = W.heap.size + 1 := by rw [hW2]; simp [hs1]
      have hh2 : W2.heap[d]? = some (.cells #[.map (some W.heap.size)] 48 (0, 0)) := by
        rw [hW2, Below.heap_alloc W1 _ d (by omega), hW1]
        exact (heap_setCell_same W d 0 #[.map none] 48 (.map (some W.heap.size)) hd).trans (by simp)
      have hk2 : ∀ k, k < W.heap.size → k ≠ d → W2.heap[k]? = W.heap[k]? := fun k hk hkd => by
        rw [hW2, Below.heap_alloc W1 _ k (by omega), hW1]
        exact Below.heap_setCell W ⟨d, 0, none⟩ _ k hkd
      have hM2 : MSAt kM W2 B W.heap.size n (.map []) F V := by
        have h := MSAt.made (K := kM) W1 B
        rw [← hW2, hs1] at h
        rw [show F = fun _ => [] from funext hF0, show V = fun _ => Value.slice none 0 0 from funext hV0]
        exact ⟨h.map.mono (Nat.zero_le _), h.val, h.key, h.row, h.nil, h.apart⟩
      have hv2 : W2.ownsRow B 82 3 (.slice p m c) m (kM.flat L) := by
        refine row_keep hv (fun g hg => ?_)
        have hb := row_block hv hg
        exact hk2 g hb.2.1 (by have := hdB; omega)
      obtain ⟨w', D', hrun, hA', hg⟩ := hM2.set (t := 46) und46 (by omega) hs hL (by rw [hm]; exact hv2) hap
      have hfin : PutOut W B d n none F V s.data.toList L (.slice p m c) w' := by
        refine ⟨some W.heap.size, .inr rfl, ⟨(hg.block d (by omega) (fun e => by have := Option.some.inj e; omega)).trans hh2, hdB, .inr ⟨W.heap.size, D', rfl, hB, hA'⟩⟩, by have := hg.size; omega, hg.os.trans (by rw [hW2, hW1]; first | rfl | simp), hg.tape.trans (by rw [hW2, hW1]; first | rfl | simp), hg.output.trans (by rw [hW2, hW1]; first | rfl | simp), fun g hgs hgd _ => ?_⟩
        rw [hg.block g (by omega) (fun e => by have := Option.some.inj e; omega)]
        exact hk2 g hgs hgd
      have HFIN := hide hfin
      have hq : ∀ w, (binOp .eql 46 (.map none) (.map none)).run Tryd.prog w = .ok (.bool true) w := eq46 none
      have hmk := fun W => run_makeMap (P := Tryd.prog) 46 W
      have hc2 : W2.cell? ⟨d, 0, none⟩ = some (.map (some W.heap.size)) := by simp [World.cell?, hh2]
      clear hfin hA' hg hv hap hrw hV0 hv2 hM2 hk2 hh2 hs2 hs1
      subst hW2
      subst hW1
      go_enter Tryd.func19, Tryd.ntmps19
      go_wp2_with fail
      go_end0
      exact ⟨rfl, unhide HFIN⟩
    · have hmapW : W.ownsMap Tryd.prog 9 sliceElem b n D := by
        obtain ⟨es, clock, hb, r⟩ := hA.map
        exact ⟨es, clock, (hmb b rfl).trans hb, r⟩
      obtain ⟨w', D', hrun, hA', hg⟩ := hA.set0 (t := 46) hmapW und46 (by omega) hs hL (by rw [hm]; exact hv) hrw hap
      have hfin : PutOut W B d n (some b) F V s.data.toList L (.slice p m c) w' := by
        have hbd : d ≠ b := fun e => by have := hdB; omega
        refine ⟨some b, .inl rfl, ⟨(hg.block d (Nat.lt_of_lt_of_le hdB hB) (fun e => hbd (Option.some.inj e))).trans hd, hdB, .inr ⟨b, D', rfl, hbB, hA'⟩⟩, hg.size, hg.os, hg.tape, hg.output, fun g hgs _ hne => hg.block g hgs (fun e => hne e.symm)⟩
      have HFIN := hide hfin
      have hq : ∀ w, (binOp .eql 46 (.map (some b)) (.map none)).run Tryd.prog w = .ok (.bool false) w := eq46 (some b)
      clear hfin hA' hg hA hv hap hrw hV0
      go_enter Tryd.func19, Tryd.ntmps19
      go_wp2_with fail
      go_end0
      exact ⟨rfl, unhide HFIN⟩
end Go.Proofs.YtenoaechonpjgaaDoor
