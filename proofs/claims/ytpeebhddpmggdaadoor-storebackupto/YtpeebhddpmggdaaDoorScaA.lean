/- store: told (12), bytes.Equal (14), bytes.HasPrefix (13), first (11). -/
import Derived.Test.YtpeebhddpmggdaaDoorRngA
import Derived.Laws.BytesArg
import Derived.Lib.Bytes
namespace Go.Proofs.YtpeebhddpmggdaaDoor
open Go Go.ChangeShapes Go.WideShapes Go.ChangeAt Go.RowKit
set_option linter.unusedVariables false
theorem or_add (a b : Nat) (ha : a < 256) : a ||| b * 256 = a + 256 * b := by
  have h := Nat.shiftLeft_add_eq_or_of_lt (show a < 2 ^ 8 by omega) b
  rw [Nat.shiftLeft_eq] at h
  rw [Nat.or_comm, ← h]
  omega
theorem i64_or_small (a b : Nat) (ha : a < 256) (hb : b < 256) : bits .or .i64 (a : Int) ((b : Int) * 256) = ((a + 256 * b : Nat) : Int) := by
  have e : (b : Int) * 256 = ((b * 256 : Nat) : Int) := by omega
  rw [e]
  show IntKind.i64.wrap ((BitVec.ofInt 64 (a : Int) ||| BitVec.ofInt 64 ((b * 256 : Nat) : Int)).toNat : Int) = _
  have e1 : (BitVec.ofInt 64 (a : Int)).toNat = a := by rw [BitVec.toNat_ofInt]; omega
  have e2 : (BitVec.ofInt 64 ((b * 256 : Nat) : Int)).toNat = b * 256 := by rw [BitVec.toNat_ofInt]; omega
  rw [BitVec.toNat_or, e1, e2, or_add a b ha]
  rw [IntKind.wrap_i64]
  omega
/-- the record's length by a frame's first two bytes -/
def toldN (f : Nat → Nat) : Nat := f 0 + 256 * f 1
set_option maxHeartbeats 1000000 in
theorem told_any (f : Nat → Nat) (hf : ∀ k, f k < 256) (b off n cap : Nat) (hn : 8 ≤ n) (w : World) (hc : ∀ k, k < n → w.cell? ⟨b, off + k, none⟩ = some (.int .u8 (f k : Int))) : Calls Tryd.prog 12 #[.slice (some ⟨b, off, none⟩) n cap] w fun e w' => e = .returned (.int .i64 (toldN f : Int)) ∧ ∃ m, w' = w.drewN m := by
  have h0 := hc 0 (by omega)
  have h1 := hc 1 (by omega)
  rw [Nat.add_zero] at h0
  have ho := i64_or_small (f 0) (f 1) (hf 0) (hf 1)
  have hi0 : (0 : Int) < (n : Int) := by omega
  have hi1 : (1 : Int) < (n : Int) := by omega
  have b0 := hf 0
  have b1 := hf 1
  obtain ⟨X, hX⟩ : ∃ X, f 0 = X := ⟨_, rfl⟩
  obtain ⟨Y, hY⟩ : ∃ Y, f 1 = Y := ⟨_, rfl⟩
  have ht : toldN f = X + 256 * Y := by rw [← hX, ← hY]; rfl
  rw [hX] at h0 ho b0
  rw [hY] at h1 ho b1
  rw [ht]
  clear hc hX hY ht hf
  go_enter Tryd.func12, Tryd.ntmps12
  go_wp2_with fail
  go_quiet (fail)
  go_wp2_with fail
  go_ret
  exact ⟨rfl, nq, rfl⟩
/-- bytes as a text -/
def txtB (f : Nat → Nat) (n : Nat) : ByteArray := strOfNums ((List.range n).map fun i => (f i : Int))
theorem conv_lies {w : World} {n : Nat} {v : Value} {f : Nat → Nat} (h : BLies f v n w) : (convert 23 9 v).run Tryd.prog w = .ok (.string (txtB f n)) w := by
  rcases h with ⟨h1, h2⟩ | ⟨b, off, cap, rfl, hb, hc⟩
  · subst h1 h2
    exact run_convert_bytes_nil (P := Tryd.prog) w 23 5 Tryd.underlying23 Tryd.underlying5 0 0 9 Tryd.underlying9
  · refine run_convert_bytes_arg (P := Tryd.prog) w 23 5 Tryd.underlying23 Tryd.underlying5 b off n cap _ (by simp) (fun i hi => ?_) 9 Tryd.underlying9
    rw [hc i hi]
    simp [List.getD, hi]
theorem txt_inj {f g : Nat → Nat} {n : Nat} (hf : ∀ k, f k < 256) (hg : ∀ k, g k < 256) : (txtB f n).toList = (txtB g n).toList ↔ ∀ j, j < n → f j = g j := by
  unfold txtB
  rw [Lib.strOfNums_toList, Lib.strOfNums_toList]
  unfold Lib.bytesOf
  rw [List.map_map, List.map_map]
  constructor
  · intro h j hj
    have h1 := congrArg (fun l => l[j]?) h
    simp [hj] at h1
    have a := hf j
    have b := hg j
    have h2 := congrArg UInt8.toNat h1
    simp at h2
    omega
  · intro h
    apply List.map_congr_left
    intro j hj
    simp at hj
    simp [h j hj]
set_option maxHeartbeats 1000000 in
theorem equal_any (f g : Nat → Nat) (va vb : Value) (n : Nat) (w : World) (ha : BLies f va n w) (hb : BLies g vb n w) : Calls Tryd.prog 14 #[va, vb] w fun e w' => e = .returned (.bool ((txtB f n).toList == (txtB g n).toList)) ∧ w' = w := by
  have k1 := conv_lies ha
  have k2 := conv_lies hb
  clear ha hb
  go_enter Tryd.func14, Tryd.ntmps14
  go_wp2_with fail
  go_ret
  exact ⟨rfl, rfl⟩
set_option maxHeartbeats 1000000 in
theorem prefix_any (f g : Nat → Nat) (b off n cap : Nat) (hcap : n ≤ cap) (pa : Option Addr) (m pc : Nat) (hm : m ≤ n) (w : World) (ha : BLies f (.slice (some ⟨b, off, none⟩) n cap) n w) (hb : BLies g (.slice pa m pc) m w) : Calls Tryd.prog 13 #[.slice (some ⟨b, off, none⟩) n cap, .slice pa m pc] w fun e w' => e = .returned (.bool ((txtB f m).toList == (txtB g m).toList)) ∧ w' = w := by
  have hp : BLies f (.slice (some ⟨b, off, none⟩) m cap) m w := by
    rcases ha with ⟨_, h⟩ | ⟨b', off', cap', h1, h2, h3⟩
    · cases h
    · simp only [Value.slice.injEq, Option.some.injEq, Addr.mk.injEq, and_true, true_and] at h1
      obtain ⟨⟨rfl, rfl⟩, rfl⟩ := h1
      exact .inr ⟨b, off, cap, rfl, fun h => h2 (by omega), fun k hk => h3 k (by omega)⟩
  have d := hide (equal_any f g _ _ m w hp hb)
  have i1 : (m : Int) ≤ (n : Int) := by omega
  have i2 : (m : Int) ≤ (cap : Int) := by omega
  have i3 : (0 : Int) ≤ (m : Int) := by omega
  clear ha hb hp
  go_enter Tryd.func13, Tryd.ntmps13
  go_wp2_with fail
  refine (unhide d).mono ?_
  rintro e w1 ⟨rfl, hw⟩
  rw [hw]
  clear hw w1
  go_wp2_with fail
  go_ret
  exact ⟨rfl, rfl⟩
def sh (f : Nat → Nat) (k : Nat) : Nat → Nat := fun i => f (k + i)
/-- a whole frame stands at the beginning -/
def Whole (f : Nat → Nat) (n : Nat) : Prop := 8 + toldN f ≤ n ∧ toldN f ≤ 2048 ∧ ∀ j, j < 8 + toldN f → f j = frB (sh f 8) (toldN f) j
def FstOut (f : Nat → Nat) (n : Nat) (w : World) (e : Ending) (w' : World) : Prop :=
  ((Whole f n ∧ ∃ v, e = .returned (.tuple #[v, .bool true]) ∧ w'.ownsRow w.heap.size 5 1 v (8 + toldN f) (bcells (frB (sh f 8) (toldN f)) (8 + toldN f))) ∨ (¬ Whole f n ∧ ∃ v, e = .returned (.tuple #[v, .bool false]))) ∧ Below w.heap.size w w'
theorem own_open {w : World} {B n : Nat} {v : Value} {xs : List Value} (h : w.ownsRow B 5 1 v n xs) (hn : 0 < n) : ∃ g c, v = .slice (some ⟨g, 0, none⟩) n c := by
  rcases h.2 with ⟨_, h0⟩ | ⟨g, c, cur, hv, _⟩
  · omega
  · exact ⟨g, c, hv⟩
theorem own_base {w : World} {B B' e size n : Nat} {v : Value} {xs : List Value} (h : w.ownsRow B e size v n xs) (hb : B' ≤ B) : w.ownsRow B' e size v n xs := by
  refine ⟨h.1, h.2.imp id ?_⟩
  rintro ⟨g, cap, cur, h1, h2, h3⟩
  exact ⟨g, cap, cur, h1, Nat.le_trans hb h2, h3⟩
theorem lowB_lt (v i : Nat) : lowB v i < 256 := Nat.mod_lt _ (by decide)
theorem cat_lt256 {f g : Nat → Nat} {n : Nat} (hf : ∀ k, f k < 256) (hg : ∀ k, g k < 256) : ∀ k, cat f n g k < 256 := fun k => by
  unfold cat
  split
  · exact hf k
  · exact hg _
theorem frB_lt (f : Nat → Nat) (hf : ∀ k, f k < 256) (n : Nat) : ∀ k, frB f n k < 256 := cat_lt256 (cat_lt256 (cat_lt256 (lowB_lt n) (lowB_lt _)) (lowB_lt _)) hf
set_option maxRecDepth 100000 in
set_option maxHeartbeats 2000000 in
theorem first_some (f : Nat → Nat) (hf : ∀ k, f k < 256) (b off n cap : Nat) (hc8 : ¬ cap = 8) (hcap : n ≤ cap) (hn : n ≤ 9223372036854770000) (w : World) (hb : 0 < n → b < w.heap.size) (hc : ∀ k, k < n → w.cell? ⟨b, off + k, none⟩ = some (.int .u8 (f k : Int))) (hS : Stp w) :
    Calls Tryd.prog 11 #[.slice (some ⟨b, off, none⟩) n cap] w fun e w' => FstOut f n w e w' := by
  have hL : BLies f (.slice (some ⟨b, off, none⟩) n cap) n w := .inr ⟨b, off, cap, rfl, hb, hc⟩
  by_cases h8 : 8 ≤ n
  · have i8 : ¬ (n : Int) < 8 := by omega
    have hdn : ∀ m, BLies f (.slice (some ⟨b, off, none⟩) n cap) n (w.drewN m) := fun m => hL
    have d1 := hide (fun m => told_any f hf b off n cap h8 (w.drewN m) hc)
    have T := hf 0
    have T1 := hf 1
    have hT : toldN f ≤ 65535 := by unfold toldN; omega
    have HTE := hide (show toldN f = toldN f from rfl)
    by_cases ht : 8 + toldN f ≤ n
    · have it : ¬ (n : Int) < 8 + (toldN f : Int) := by omega
      have hR : Hid (∀ m, BLies (sh f 8) (.slice (some ⟨b, off + 8, none⟩) (toldN f) (cap - 8)) (toldN f) (w.drewN m)) := fun m => .inr ⟨b, off + 8, cap - 8, rfl, fun h => hb (by omega), fun k hk => by
        have := hc (8 + k) (by omega)
        rw [← Nat.add_assoc] at this
        exact this⟩
      have hF := hide hf
      have HL := hide hL
      have HR := hR
      have HS := hide hS
      have i9 : (8 : Int) + (toldN f : Int) ≤ (cap : Int) := by omega
      have i10 : (8 : Int) ≤ 8 + (toldN f : Int) := by omega
      obtain ⟨t, hte⟩ : ∃ t, toldN f = t := ⟨_, rfl⟩
      have HT := hide hte
      rw [hte] at it ht d1 HR hT i9 i10
      clear hte HTE hR hdn hL hb hc hS hf
      go_enter Tryd.func11, Tryd.ntmps11
      go_wp2_with fail
      refine (unhide d1 0).mono ?_
      rintro e w1 ⟨rfl, m, hw⟩
      have hw1 : w1 = w.drewN m := hw
      rw [hw1]
      clear hw hw1 w1
      go_wp2_with fail
      refine (unhide d1 m).mono ?_
      rintro e w1 ⟨rfl, m2, hw⟩
      have hw1 : w1 = w.drewN (m + m2) := by rw [hw]; exact World.drewN_drewN w m m2
      have B1 : Hid (Below w.heap.size w w1) := by rw [hw1]; exact below_drewN (Below.refl _ _) _
      have R1 : Hid (BLies (sh f 8) (.slice (some ⟨b, off + 8, none⟩) t (cap - 8)) t w1) := by rw [hw1]; exact unhide HR _
      have L1 : Hid (BLies f (.slice (some ⟨b, off, none⟩) n cap) n w1) := by rw [hw1]; exact unhide HL
      have S1 : Hid (Stp w1) := by rw [hw1]; exact unhide HS
      clear hw hw1
      go_wp2_with fail
      all_goals
        refine (frame_any (f := sh f 8) (fun k => unhide hF _) (unhide R1) (unhide S1)).mono ?_
        intro e w2 hF2
        obtain ⟨h1, h2, h3⟩ := hF2
        have B2 := hide (step_below (unhide B1) (Nat.le_refl _) h3)
        have L2 := hide ((unhide L1).below h3)
        by_cases h4 : t ≤ 2048
        · obtain ⟨v, rfl, hv⟩ := h2 h4
          obtain ⟨gq, cq, rfl⟩ := own_open hv (by omega)
          have V2 := hide hv
          have dp := hide (prefix_any f (frB (sh f 8) t) b off n cap hcap (some ⟨gq, 0, none⟩) (8 + t) cq ht w2 (unhide L2) (BLies.of_own hv))
          have ho : Hid (w2.ownsRow w.heap.size 5 1 (.slice (some ⟨gq, 0, none⟩) (8 + t) cq) (8 + t) (bcells (frB (sh f 8) t) (8 + t))) := own_base hv (unhide B1).size
          clear h1 h2 h3 hv
          by_cases hW : Whole f n
          · have e1 : ((txtB f (8 + t)).toList == (txtB (frB (sh f 8) t) (8 + t)).toList) = true := by
              rw [beq_iff_eq]
              refine (txt_inj (unhide hF) (frB_lt _ (fun k => unhide hF _) _)).2 fun j hj => ?_
              have h := hW.2.2 j
              rw [unhide HT] at h
              exact h hj
            rw [e1] at dp
            have HW := hide hW
            clear hW e1
            go_wp2_with fail
            refine (unhide dp).mono ?_
            rintro e w3 ⟨rfl, hw⟩
            rw [hw]
            clear hw w3
            go_wp2_with fail
            go_ret2
            refine ⟨.inl ⟨unhide HW, _, rfl, ?_⟩, unhide B2⟩
            rw [unhide HT]
            exact unhide ho
          · have e1 : ((txtB f (8 + t)).toList == (txtB (frB (sh f 8) t) (8 + t)).toList) = false := by
              rw [beq_eq_false_iff_ne]
              intro h
              have h5 := (txt_inj (unhide hF) (frB_lt _ (fun k => unhide hF _) _)).1 h
              refine hW ⟨by rw [unhide HT]; exact ht, by rw [unhide HT]; exact h4, ?_⟩
              rw [unhide HT]
              exact h5
            rw [e1] at dp
            have HW := hide hW
            clear hW e1
            go_wp2_with fail
            refine (unhide dp).mono ?_
            rintro e w3 ⟨rfl, hw⟩
            rw [hw]
            clear hw w3
            go_wp2_with fail
            go_ret2
            exact ⟨.inr ⟨unhide HW, _, rfl⟩, unhide B2⟩
        · have he := h1 (by omega)
          subst he
          have hW : Hid (¬ Whole f n) := fun h => by have := h.2.1; rw [unhide HT] at this; omega
          clear h1 h2 h3
          go_wp2_with fail
          go_ret2
          exact ⟨.inr ⟨unhide hW, _, rfl⟩, unhide B2⟩
    · have it : (n : Int) < 8 + (toldN f : Int) := by omega
      have hno : Hid (¬ Whole f n) := fun h => ht h.1
      go_enter Tryd.func11, Tryd.ntmps11
      go_wp2_with fail
      refine (unhide d1 0).mono ?_
      rintro e w1 ⟨rfl, m, hw⟩
      have B1 : Hid (Below w.heap.size w w1) := by rw [hw]; exact below_drewN (below_drewN (Below.refl _ _) 0) m
      clear hw
      go_wp2_with fail
      go_ret2
      exact ⟨.inr ⟨unhide hno, _, rfl⟩, unhide B1⟩
  · have i8 : (n : Int) < 8 := by omega
    have hno : Hid (¬ Whole f n) := fun h => by have := h.1; omega
    go_enter Tryd.func11, Tryd.ntmps11
    go_wp2_with fail
    go_ret2
    exact ⟨.inr ⟨unhide hno, _, rfl⟩, Below.refl _ _⟩
set_option maxRecDepth 100000 in
set_option maxHeartbeats 2000000 in
theorem first_eight (f : Nat → Nat) (hf : ∀ k, f k < 256) (b off : Nat) (w : World) (hb : b < w.heap.size) (hc : ∀ k, k < 8 → w.cell? ⟨b, off + k, none⟩ = some (.int .u8 (f k : Int))) (hS : Stp w) :
    Calls Tryd.prog 11 #[.slice (some ⟨b, off, none⟩) 8 8] w fun e w' => FstOut f 8 w e w' := by
  have hL : BLies f (.slice (some ⟨b, off, none⟩) 8 8) 8 w := .inr ⟨b, off, 8, rfl, fun _ => hb, hc⟩
  have d1 := hide (fun m => told_any f hf b off 8 8 (Nat.le_refl _) (w.drewN m) hc)
  have T := hf 0
  have T1 := hf 1
  have hT : toldN f ≤ 65535 := by unfold toldN; omega
  by_cases ht : toldN f = 0
  · have hF := hide hf
    have HL := hide hL
    have HS := hide hS
    have HT := hide ht
    rw [ht] at d1
    clear ht hT hL hb hc hS hf
    go_enter Tryd.func11, Tryd.ntmps11
    go_wp2_with fail
    refine (unhide d1 0).mono ?_
    rintro e w1 ⟨rfl, m, hw⟩
    have hw1 : w1 = w.drewN m := hw
    rw [hw1]
    clear hw hw1 w1
    go_wp2_with fail
    refine (unhide d1 m).mono ?_
    rintro e w1 ⟨rfl, m2, hw⟩
    have hw1 : w1 = w.drewN (m + m2) := by rw [hw]; exact World.drewN_drewN w m m2
    have B1 : Hid (Below w.heap.size w w1) := by rw [hw1]; exact below_drewN (Below.refl _ _) _
    have L1 : Hid (BLies f (.slice (some ⟨b, off, none⟩) 8 8) 8 w1) := by rw [hw1]; exact unhide HL
    have S1 : Hid (Stp w1) := by rw [hw1]; exact unhide HS
    clear hw hw1
    go_wp2_with fail
    refine (frame_any (f := sh f 8) (n := 0) (fun k => unhide hF _) (.inr ⟨b, off, 0, rfl, fun h => by omega, fun k hk => by omega⟩) (unhide S1)).mono ?_
    intro e w2 hF2
    obtain ⟨h1, h2, h3⟩ := hF2
    have B2 := hide (step_below (unhide B1) (Nat.le_refl _) h3)
    have L2 := hide ((unhide L1).below h3)
    obtain ⟨v, rfl, hv⟩ := h2 (by omega)
    obtain ⟨gq, cq, rfl⟩ := own_open hv (by omega)
    have dp := hide (prefix_any f (frB (sh f 8) 0) b off 8 8 (Nat.le_refl _) (some ⟨gq, 0, none⟩) (8 + 0) cq (Nat.le_refl _) w2 (unhide L2) (BLies.of_own hv))
    have ho : Hid (w2.ownsRow w.heap.size 5 1 (.slice (some ⟨gq, 0, none⟩) (8 + 0) cq) (8 + 0) (bcells (frB (sh f 8) 0) (8 + 0))) := own_base hv (unhide B1).size
    clear h1 h2 h3 hv
    by_cases hW : Whole f 8
    · have e1 : ((txtB f (8 + 0)).toList == (txtB (frB (sh f 8) 0) (8 + 0)).toList) = true := by
        rw [beq_iff_eq]
        refine (txt_inj (unhide hF) (frB_lt _ (fun k => unhide hF _) _)).2 fun j hj => ?_
        have h := hW.2.2 j
        rw [unhide HT] at h
        exact h hj
      rw [e1] at dp
      have HW := hide hW
      clear hW e1
      go_wp2_with fail
      refine (unhide dp).mono ?_
      rintro e w3 ⟨rfl, hw⟩
      rw [hw]
      clear hw w3
      go_wp2_with fail
      go_ret2
      refine ⟨.inl ⟨unhide HW, _, rfl, ?_⟩, unhide B2⟩
      rw [unhide HT]
      exact unhide ho
    · have e1 : ((txtB f (8 + 0)).toList == (txtB (frB (sh f 8) 0) (8 + 0)).toList) = false := by
        rw [beq_eq_false_iff_ne]
        intro h
        have h5 := (txt_inj (unhide hF) (frB_lt _ (fun k => unhide hF _) _)).1 h
        refine hW ⟨by rw [unhide HT]; omega, by rw [unhide HT]; omega, ?_⟩
        rw [unhide HT]
        exact h5
      rw [e1] at dp
      have HW := hide hW
      clear hW e1
      go_wp2_with fail
      refine (unhide dp).mono ?_
      rintro e w3 ⟨rfl, hw⟩
      rw [hw]
      clear hw w3
      go_wp2_with fail
      go_ret2
      exact ⟨.inr ⟨unhide HW, _, rfl⟩, unhide B2⟩
  · have it : (8 : Int) < 8 + (toldN f : Int) := by omega
    have hno : Hid (¬ Whole f 8) := fun h => by have := h.1; omega
    go_enter Tryd.func11, Tryd.ntmps11
    go_wp2_with fail
    refine (unhide d1 0).mono ?_
    rintro e w1 ⟨rfl, m, hw⟩
    have B1 : Hid (Below w.heap.size w w1) := by rw [hw]; exact below_drewN (below_drewN (Below.refl _ _) 0) m
    clear hw
    go_wp2_with fail
    go_ret2
    exact ⟨.inr ⟨unhide hno, _, rfl⟩, unhide B1⟩
set_option maxHeartbeats 1000000 in
theorem first_short (f : Nat → Nat) (pa : Option Addr) (n cap : Nat) (h8 : n < 8) (w : World) : Calls Tryd.prog 11 #[.slice pa n cap] w fun e w' => FstOut f n w e w' := by
  have i8 : (n : Int) < 8 := by omega
  have hno : Hid (¬ Whole f n) := fun h => by have := h.1; omega
  go_enter Tryd.func11, Tryd.ntmps11
  go_wp2_with fail
  go_ret2
  exact ⟨.inr ⟨unhide hno, _, rfl⟩, Below.refl _ _⟩
theorem first_any (f : Nat → Nat) (hf : ∀ k, f k < 256) (pa : Option Addr) (n cap : Nat) (hcap : n ≤ cap) (hn : n ≤ 9223372036854770000) (w : World) (h : BLies f (.slice pa n cap) n w) (hS : Stp w) : Calls Tryd.prog 11 #[.slice pa n cap] w fun e w' => FstOut f n w e w' := by
  by_cases h8 : n < 8
  · exact first_short f pa n cap h8 w
  · rcases h with ⟨h0, _⟩ | ⟨b, off, cap', h1, h2, h3⟩
    · omega
    · simp only [Value.slice.injEq, true_and] at h1
      obtain ⟨rfl, rfl⟩ := h1
      by_cases hc : cap = 8
      · have hn8 : n = 8 := by omega
        subst hc hn8
        exact first_eight f hf b off w (h2 (by omega)) h3 hS
      · exact first_some f hf b off n cap hc hcap hn w h2 h3 hS
end Go.Proofs.YtpeebhddpmggdaaDoor
