import Derived.Test.YtddpladmkmpoaaaSumM
import Derived.Laws.AppendOwn
import Derived.Laws.AppendOwnNone
import Derived.Laws.OwnMore
import Derived.Deep.AppendLies
namespace Go.Proofs.Ytddpladmkmpoaaa
open Go.ChangeShapes Go.WideShapes Go.ChangeAt Go.RowKit
set_option linter.unusedVariables false

theorem info2 : (Try.prog.info? 2).map (fun i => (i.zero, i.size, i.bytes)) = some (some (.int .i64 0), 1, 8) := by kernel_rfl

/-- the numbers, then the marks -/
def pz (zs : Nat → Int) (len : Nat) : Nat → Int := fun i => if i < len then zs i else -7 - ((i : Int) - len)
/-- the first n as cells -/
def cellsOf (f : Nat → Int) (n : Nat) : List Value := (List.range n).map fun i => .int .i64 (f i)
theorem cellsOf_succ (f : Nat → Int) (n : Nat) : cellsOf f (n + 1) = cellsOf f n ++ [.int .i64 (f n)] := by simp [cellsOf, List.range_succ]
theorem cellsOf_length (f : Nat → Int) (n : Nat) : (cellsOf f n).length = n := by simp [cellsOf]
theorem cellsOf_get (f : Nat → Int) (n j : Nat) (h : j < n) : (cellsOf f n)[j]? = some (.int .i64 (f j)) := by simp [cellsOf, h]
theorem cellsOf_get' {f : Nat → Int} {n j : Nat} {u : Value} (h : (cellsOf f n)[j]? = some u) : j < n ∧ u = .int .i64 (f j) := by
  by_cases hj : j < n
  · rw [cellsOf_get f n j hj] at h
    exact ⟨hj, (Option.some.inj h).symm⟩
  · rw [List.getElem?_eq_none (by rw [cellsOf_length]; omega)] at h
    cases h
theorem cellsOf_one (f : Nat → Int) (n : Nat) : ∀ u ∈ cellsOf f n, u.oneCell' = true := by
  intro u hu
  simp only [cellsOf, List.mem_map] at hu
  obtain ⟨i, _, rfl⟩ := hu
  rfl
theorem cellsOf_ext {f g : Nat → Int} (n : Nat) (h : ∀ i, i < n → f i = g i) : cellsOf f n = cellsOf g n := by
  induction n with
  | zero => rfl
  | succ n ih => rw [cellsOf_succ, cellsOf_succ, ih (fun i hi => h i (by omega)), h n (by omega)]
theorem pz_lt {zs : Nat → Int} {len i : Nat} (h : i < len) : pz zs len i = zs i := by simp [pz, h]
theorem pz_ge {zs : Nat → Int} {len : Nat} (k : Nat) : pz zs len (len + k) = -7 - (k : Int) := by
  have : ¬ len + k < len := by omega
  simp only [pz, if_neg this]
  omega

/-- what piece hands back -/
def PieceOut (zs : Nat → Int) (len : Nat) (w : World) (e : Ending) (w' : World) : Prop :=
  ∃ g c, e = .returned (.slice (some ⟨g, 0, none⟩) (len + 64) c) ∧ w'.ownsRow w.heap.size 2 1 (.slice (some ⟨g, 0, none⟩) (len + 64) c) (len + 64) (cellsOf (pz zs len) (len + 64)) ∧ Below w.heap.size w w'

theorem pieceOut_of {zs : Nat → Int} {len : Nat} {w w' : World} {v : Value} (h : w'.ownsRow w.heap.size 2 1 v (len + 64) (cellsOf (pz zs len) (len + 64))) (hb : Below w.heap.size w w') : PieceOut zs len w (.returned v) w' := by
  obtain ⟨g, c, hv⟩ : ∃ g c, v = .slice (some ⟨g, 0, none⟩) (len + 64) c := by
    rcases h.2 with ⟨_, h0⟩ | ⟨g, c, cur, hv, _⟩
    · omega
    · exact ⟨g, c, hv⟩
  rw [hv] at h ⊢
  exact ⟨g, c, rfl, h, hb⟩

set_option maxHeartbeats 4000000 in
theorem piece_some (zs : Nat → Int) (ad : Addr) (len cap : Nat) (hr : len * 8 ≤ 140737488351232) (w : World) (hc : ∀ j, j < len → w.cell? (ad.add j) = some (.int .i64 (zs j))) :
    Calls Try.prog 7 #[.slice (some ad) len cap] w fun e w' => PieceOut zs len w e w' := by
  obtain ⟨i0, hi, hz0, hz1, hz2⟩ := info_parts info2
  have HI := hide hi; have HZ0 := hide hz0; have HZ1 := hide hz1; have HZ2 := hide hz2
  have HC := hide hc
  clear hi hz0 hz1 hz2 hc
  go_enter Try.func7, Try.ntmps7
  go_wp2_with (at_builtin; refine wpList_append_own _ rfl _ _ 22 rfl w.heap.size 2 i0 (.int .i64 0) 1 8 Try.underlying22 (unhide HI) (unhide HZ0) (unhide HZ1) (unhide HZ2) rfl (by decide) _ _ _ rfl (World.ownsRow_nil _ _ _ _) ad len cap (cellsOf zs len) rfl (by rw [cellsOf_length]; omega) (fun j u hj => by obtain ⟨h1, h2⟩ := cellsOf_get' hj; rw [h2]; exact (unhide HC) j h1) (cellsOf_one _ _) (by unfold maxLen; omega) (by omega) (Nat.le_refl _) ?_; intro v1 w1 hown1 hgrow1 _)
  have B1 := hide (Below.grown (Below.refl w.heap.size w) hgrow1 (Nat.le_refl _) (by intro k hk; change none = some k at hk; cases hk))
  have O1 := hide hown1
  clear hown1 hgrow1
  go_wp2
  go_loopw [3, 4] (fun v i wr => ∃ (k : Nat), k ≤ 64 ∧ i = .int .i64 k ∧ wr.ownsRow w.heap.size 2 1 v (len + k) (cellsOf (pz zs len) (len + k)) ∧ Below w.heap.size w wr) (fun _ i _ => 64 - (intOf i).toNat)
  case atStart =>
    refine ⟨0, by omega, rfl, ?_, unhide B1⟩
    have h := unhide O1
    simp only [Nat.zero_add, List.nil_append] at h
    rw [cellsOf_ext len (fun i hi => (pz_lt (zs := zs) hi).symm)] at h
    exact h
  case round =>
    rename_i v wr
    obtain ⟨k, hk, rfl, hown, hbel⟩ := hrel
    have OWN := hide hown
    have BEL := hide hbel
    have hsz := hbel.size
    clear hown hbel O1 B1
    by_cases hlt : k < 64
    · go_wp2_with (at_builtin; refine wpList_append_own _ rfl _ _ 22 rfl w.heap.size 2 i0 (.int .i64 0) 1 8 Try.underlying22 (unhide HI) (unhide HZ0) (unhide HZ1) (unhide HZ2) rfl (by decide) _ _ _ rfl ((unhide OWN).alloc _) ⟨wr.heap.size, 0, none⟩ 1 1 [.int .i64 (-7 - (k : Int))] rfl rfl (cell_one_new _ _ _) (by intro u hu; simp at hu; subst hu; rfl) (by unfold maxLen; omega) (by omega) (by simp; omega) ?_; intro v1 w2 hown1 hgrow1 _)
      have B2 := hide (Below.grown (bal (unhide BEL) _) hgrow1 (by simp; omega) (fun j hj => ((unhide OWN).lt j hj).1))
      have O2 := hide hown1
      clear hown1 hgrow1
      go_wp2
      go_roundw
      case rel =>
        refine ⟨k + 1, by omega, by go_num, ?_, unhide B2⟩
        have h := unhide O2
        rw [← pz_ge (zs := zs) (len := len) k, ← cellsOf_succ] at h
        exact h
      case measure => simp [intOf]; omega
    · have hk64 : k = 64 := by omega
      subst hk64
      go_wp2
      go_ret
      exact pieceOut_of (unhide OWN) (unhide BEL)
set_option maxHeartbeats 4000000 in
theorem piece_none (zs : Nat → Int) (w : World) :
    Calls Try.prog 7 #[.slice none 0 0] w fun e w' => PieceOut zs 0 w e w' := by
  obtain ⟨i0, hi, hz0, hz1, hz2⟩ := info_parts info2
  have HI := hide hi; have HZ0 := hide hz0; have HZ1 := hide hz1; have HZ2 := hide hz2
  clear hi hz0 hz1 hz2
  go_enter Try.func7, Try.ntmps7
  go_wp2_with (at_builtin; refine wpList_append_own_none rfl _ _ 22 rfl w.heap.size 2 i0 1 Try.underlying22 (unhide HI) _ _ _ rfl (World.ownsRow_nil _ _ _ _) rfl ?_)
  go_loopw [3, 4] (fun v i wr => ∃ (k : Nat), k ≤ 64 ∧ i = .int .i64 k ∧ wr.ownsRow w.heap.size 2 1 v (0 + k) (cellsOf (pz zs 0) (0 + k)) ∧ Below w.heap.size w wr) (fun _ i _ => 64 - (intOf i).toNat)
  case atStart => exact ⟨0, by omega, rfl, World.ownsRow_nil _ _ _ _, Below.refl _ _⟩
  case round =>
    rename_i v wr
    obtain ⟨k, hk, rfl, hown, hbel⟩ := hrel
    have OWN := hide hown
    have BEL := hide hbel
    have hsz := hbel.size
    clear hown hbel
    by_cases hlt : k < 64
    · go_wp2_with (at_builtin; refine wpList_append_own _ rfl _ _ 22 rfl w.heap.size 2 i0 (.int .i64 0) 1 8 Try.underlying22 (unhide HI) (unhide HZ0) (unhide HZ1) (unhide HZ2) rfl (by decide) _ _ _ rfl ((unhide OWN).alloc _) ⟨wr.heap.size, 0, none⟩ 1 1 [.int .i64 (-7 - (k : Int))] rfl rfl (cell_one_new _ _ _) (by intro u hu; simp at hu; subst hu; rfl) (by unfold maxLen; omega) (by omega) (by simp; omega) ?_; intro v1 w2 hown1 hgrow1 _)
      have B2 := hide (Below.grown (bal (unhide BEL) _) hgrow1 (by simp; omega) (fun j hj => ((unhide OWN).lt j hj).1))
      have O2 := hide hown1
      clear hown1 hgrow1
      go_wp2
      go_roundw
      case rel =>
        refine ⟨k + 1, by omega, by go_num, ?_, unhide B2⟩
        have h := unhide O2
        rw [← pz_ge (zs := zs) (len := 0) k, ← cellsOf_succ] at h
        exact h
      case measure => simp [intOf]; omega
    · have hk64 : k = 64 := by omega
      subst hk64
      go_wp2
      go_ret
      exact pieceOut_of (unhide OWN) (unhide BEL)

set_option maxHeartbeats 2000000 in
theorem kept_some (zs : Nat → Int) (b off len cap : Nat) (hr : len * 8 ≤ 140737488351232) (hcap : len ≤ cap) (g c : Nat) (w : World) (hc : ∀ k, k < len → w.cell? ⟨b, off + k, none⟩ = some (.int .i64 (zs k)))
    (hf : ∀ k, k < len + 64 → w.cell? ⟨g, k, none⟩ = some (.int .i64 (pz zs (len) k))) :
    Calls Try.prog 10 #[.slice (some ⟨g, 0, none⟩) (len + 64) c, .slice (some ⟨b, off, none⟩) (len) cap] w fun e w' => e = .returned (.bool true) ∧ ∃ n, w' = w.drewN n := by
  go_enter Try.func10, Try.ntmps10
  go_wp2
  go_loopw [5] (fun i wr => ∃ (k n : Nat), k ≤ len ∧ i = .int .i64 k ∧ wr = w.drewN n) (fun i _ => len - (intOf i).toNat)
  case atStart => exact ⟨0, 0, by omega, rfl, rfl⟩
  case round =>
    obtain ⟨k, n, hk, rfl, rfl⟩ := hrel
    by_cases hlt : k < len
    · have hck := hc k hlt
      have hfk := hf k (by omega)
      rw [pz_lt hlt] at hfk
      have hb0 : (0 : Int) ≤ (k : Int) := by omega
      have hb1 : (k : Int) < (len : Int) := by omega
      have hb2 : (k : Int) < (len : Int) + 64 := by omega
      clear hf hc
      go_wp2
      go_quiet (fail)
      go_wp2
      go_roundw
      case rel => exact ⟨k + 1, n + nq, by omega, by go_num, rfl⟩
      case measure => simp [intOf]; omega
    · clear hk
      go_wp2
      go_loopw [6] (fun i wr => ∃ (j n : Nat), j ≤ 64 ∧ i = .int .i64 j ∧ wr = w.drewN n) (fun i _ => 64 - (intOf i).toNat)
      case atStart => exact ⟨0, n, by omega, rfl, rfl⟩
      case round =>
        obtain ⟨j, m, hj, rfl, rfl⟩ := hrel
        by_cases hlj : j < 64
        · have hfj := hf (len + j) (by omega)
          rw [pz_ge] at hfj
          have hx : ((len : Int) + (j : Int)).toNat = len + j := by omega
          clear hf
          go_wp2
          go_roundw
          case rel => exact ⟨j + 1, m, by omega, by go_num, rfl⟩
          case measure => simp [intOf]; omega
        · go_wp2
          go_ret
          exact ⟨rfl, m, rfl⟩

set_option maxHeartbeats 2000000 in
theorem kept_zero (zs : Nat → Int) (a0 : Option Addr) (cap : Nat) (g c : Nat) (w : World)
    (hf : ∀ k, k < 0 + 64 → w.cell? ⟨g, k, none⟩ = some (.int .i64 (pz zs (0) k))) :
    Calls Try.prog 10 #[.slice (some ⟨g, 0, none⟩) (0 + 64) c, .slice a0 (0) cap] w fun e w' => e = .returned (.bool true) ∧ ∃ n, w' = w.drewN n := by
  go_enter Try.func10, Try.ntmps10
  go_wp2
  go_loopw [5] (fun i wr => ∃ (k n : Nat), k ≤ 0 ∧ i = .int .i64 k ∧ wr = w.drewN n) (fun i _ => 0 - (intOf i).toNat)
  case atStart => exact ⟨0, 0, by omega, rfl, rfl⟩
  case round =>
    obtain ⟨k, n, hk, rfl, rfl⟩ := hrel
    by_cases hlt : k < 0
    · omega
    · clear hk
      go_wp2
      go_loopw [6] (fun i wr => ∃ (j n : Nat), j ≤ 64 ∧ i = .int .i64 j ∧ wr = w.drewN n) (fun i _ => 64 - (intOf i).toNat)
      case atStart => exact ⟨0, n, by omega, rfl, rfl⟩
      case round =>
        obtain ⟨j, m, hj, rfl, rfl⟩ := hrel
        by_cases hlj : j < 64
        · have e := pz_ge (zs := zs) (len := 0) j
          rw [Nat.zero_add] at e
          have hfj := hf j (by omega)
          rw [e] at hfj
          clear e
          clear hf
          go_wp2
          go_roundw
          case rel => exact ⟨j + 1, m, by omega, by go_num, rfl⟩
          case measure => simp [intOf]; omega
        · go_wp2
          go_ret
          exact ⟨rfl, m, rfl⟩
end Go.Proofs.Ytddpladmkmpoaaa
