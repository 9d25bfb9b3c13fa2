import Derived.Test.YtddpladmkmpoaaaStbF
import Derived.Test.YtddpladmkmpoaaaSplA
import Derived.Test.YtddpladmkmpoaaaRatM
import Derived.Laws.MakeOwn
namespace Go.Proofs.Ytddpladmkmpoaaa
open Go.ChangeShapes Go.WideShapes Go.ChangeAt Go.RowKit Go.Sort Go.Lib Go.Shelf
set_option linter.unusedVariables false
attribute [local go_sem ↓] ld50_is st50_is
set_option maxHeartbeats 1000000 in
/-- slices.SortStableFunc -/
theorem sort_any (blk cap : Nat) (d : Array Sh) (w : World) (R : RowK enc3 3 w blk 0 d) (hsz : d.size ≤ 1000) (hr : Ris d 0 d.size) :
    Calls Try.prog 46 #[.slice (some ⟨blk, 0, none⟩) d.size cap, .func (.func 47) #[] #[]] w fun e w' => e = .returned (.tuple #[]) ∧ ∃ c : Array Sh, SWK enc3 3 w blk 0 c w' ∧ PermIn 0 d.size d c ∧ Srt c 0 d.size := by
  have C1 := hide (stable_any blk cap d w R hsz hr)
  obtain ⟨n, hn⟩ : ∃ n, d.size = n := ⟨_, rfl⟩
  rw [hn] at C1 ⊢
  clear R hr hn
  go_enter Try.func46, Try.ntmps46
  go_wp2_with fail
  refine (unhide C1).mono ?_
  rintro e w2 ⟨rfl, h⟩
  go_wp2
  go_end0
  exact ⟨rfl, h⟩
/-- the first i of n are laid -/
def mkA (n i : Nat) (f : Nat → Sh) : Array Sh := (Array.range n).map fun j => if j < i then f j else ⟨0, 0, 0⟩
theorem mkA_size (n i : Nat) (f : Nat → Sh) : (mkA n i f).size = n := by simp [mkA]
theorem mkA_get {n i j : Nat} (f : Nat → Sh) (h : j < n) : (mkA n i f)[j]! = if j < i then f j else ⟨0, 0, 0⟩ := by simp [mkA, h]
theorem mkA_set {n i : Nat} (f : Nat → Sh) (h : i < n) : (mkA n i f).setIfInBounds i (f i) = mkA n (i + 1) f := by
  apply Array.ext
  · simp [mkA]
  · intro j h1 h2
    have hj : j < n := by simpa [mkA] using h2
    have g1 := mkA_get (i := i + 1) f hj
    have g0 := mkA_get (i := i) f hj
    rw [getElem!_pos _ j h2] at g1
    rw [getElem!_pos _ j (by rw [mkA_size]; exact hj)] at g0
    rw [g1, Array.getElem_setIfInBounds (by rw [mkA_size]; exact hj)]
    by_cases e : i = j
    · subst e; rw [if_pos rfl, if_pos (by omega)]
    · rw [if_neg e, g0]
      have hi' : j < i + 1 ↔ j < i := by omega
      simp only [hi']
theorem setMany_one (d : Array Sh) (x : Nat) (y : Sh) (hx : x < d.size) : setMany (flatK enc3 3 d) (x * 3) (enc3 y) = flatK enc3 3 (d.setIfInBounds x y) := by
  refine ext_get! (by simp) fun t ht => ?_
  have ht' : t < d.size * 3 := by simpa using ht
  rw [get_setMany _ _ _ t (by simpa using ht'), get_flatK _ _ _ t ht', get_flatK _ _ _ t (by simpa using ht')]
  have hb := blk_iff 3 x t (by decide)
  rw [enc3_len]
  by_cases h : x * 3 ≤ t ∧ t < x * 3 + 3
  · rw [if_pos h]
    have e := hb.1 h
    have e2 : t - x * 3 = t % 3 := by omega
    rw [e, e2]
    congr 1
    simp [hx]
  · rw [if_neg h]
    have e : ¬ t / 3 = x := fun e => h (hb.2 e)
    congr 1
    congr 1
    have : t / 3 < d.size := by omega
    simp [this, Ne.symm e]
theorem sw_set {w0 W : World} {blk : Nat} {dk : Array Sh} (h : SWK enc3 3 w0 blk 0 dk W) (hblk : blk < w0.heap.size) {x : Nat} (hx : x < dk.size) (y : Sh) : SWK enc3 3 w0 blk 0 (dk.setIfInBounds x y) (W.setCells blk (x * 3) (enc3 y)) := by
  obtain ⟨n, os, rfl⟩ := h
  refine ⟨n, os, ?_⟩
  unfold sortWorldK
  rw [← putRowK_grow enc3 3 (Sort.ahead w0 n) os blk 0 dk hblk, ← putRowK_grow enc3 3 (Sort.ahead w0 n) os blk 0 _ hblk]
  unfold putRowK
  have := setCells_putRow (grow (Sort.ahead w0 n) os) blk 0 (enc3 y) (x * 3) (flatK enc3 3 dk) (by rw [size_flatK, enc3_len]; omega)
  rw [Nat.zero_add] at this
  rw [this, setMany_one dk x y hx]
theorem info50 : (Try.prog.info? 71).map (fun i => (i.zero, i.size, i.bytes)) = some (some (.agg #[.int .i64 0, .int .i64 0, .int .u64 0]), 3, 24) := by kernel_rfl
/-- the new row of shares -/
def mkW (w : World) (n : Nat) : World := w.alloc (.cells (madeCells #[.int .i64 0, .int .i64 0, .int .u64 0] (n * 3)) 71)
theorem run_mk (n : Nat) (hn : n ≤ 1000) (w : World) : (Instr.makeSlice 66 (.int .i64 (n : Int)) (.int .i64 (n : Int))).run Try.prog w = .ok (.slice (some ⟨w.heap.size, 0, none⟩) n n) (mkW w n) := by
  obtain ⟨i0, hi, hz0, hsz, hz2⟩ := info_parts info50
  have h := run_make (P := Try.prog) w 66 71 i0 (.agg #[.int .i64 0, .int .i64 0, .int .u64 0]) Try.underlying66 hi hz0 .i64 .i64 n n (by omega) (by omega) (by rw [hz2]; omega) (by omega)
  rw [hsz, Int.toNat_natCast] at h
  exact h
theorem mkW_size (w : World) (n : Nat) : (mkW w n).heap.size = w.heap.size + 1 := by unfold mkW; rw [World.size_alloc]
theorem mkW_holds (w : World) (n : Nat) (f : Nat → Sh) : HoldsK enc3 3 (mkW w n) w.heap.size 0 (mkA n 0 f) := by
  intro t ht
  have ht' : t < n * 3 := by simpa [mkA] using ht
  refine ⟨?_, World.frozen?_alloc_new _ _ _ _⟩
  unfold mkW
  rw [World.cell?_alloc_new, get_flatK _ _ _ t (by rw [mkA_size]; exact ht'), mkA_get f (show t / 3 < n by omega), if_neg (by omega)]
  have e : (madeCells #[.int .i64 0, .int .i64 0, .int .u64 0] (n * 3))[0 + t]? = some ((#[.int .i64 0, .int .i64 0, .int .u64 0] : Array Value)[t % 3]!) := by
    rw [Nat.zero_add]
    simp [madeCells, ht']
  rw [e]
  have : t % 3 = 0 ∨ t % 3 = 1 ∨ t % 3 = 2 := by omega
  rcases this with h | h | h <;> rw [h] <;> rfl
end Go.Proofs.Ytddpladmkmpoaaa
