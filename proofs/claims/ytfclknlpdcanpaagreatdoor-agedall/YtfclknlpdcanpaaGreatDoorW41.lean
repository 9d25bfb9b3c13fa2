import Derived.Test.YtfclknlpdcanpaaGreatDoorW37
import Derived.Test.YtfclknlpdcanpaaGreatDoorW39
import Derived.Test.YtfclknlpdcanpaaGreatDoorW40
/- A play: one step (9), whatever the act is. By tools/stb.py. -/
namespace Go.Proofs.YtfclknlpdcanpaaGreatDoor.Kg
open Go Go.Shelf Go.ChangeShapes Go.WideShapes Go.ChangeAt Go.RowKit Go.Maps
set_option linter.unusedVariables false
set_option linter.unusedSimpArgs false
def ld62 (x : Value) : Sem Value := Instr.loadAt 62 x
theorem ld62_is (x : Value) : Instr.loadAt 62 x = ld62 x := rfl
theorem size62 : (Tryz.prog.info? 62).map (·.size) = some 15 := by kernel_rfl
theorem run_ld62 {w : World} {b o : Nat} {x : OpV} (h : w.rangeAt b o x.arr.toList) : (ld62 (.pointer (some ⟨b, o, none⟩))).run Tryz.prog w = .ok (.agg x.arr) w :=
  run_loadAt_mid (P := Tryz.prog) w b o 62 x.arr.toList _ h Tryz.underlying62 rfl size62
theorem range_box {w : World} {b : Nat} {a : Array Value} {t : Nat} {f : Nat × Nat} (h : w.heap[b]? = some (.cells a t f)) : w.rangeAt b 0 a.toList := fun i v hv => by
  rw [Nat.zero_add, cell_at h]
  simpa using hv
attribute [local go_sem ↓] ld62_is
set_option maxRecDepth 100000 in
set_option maxHeartbeats 16000000 in
theorem stepLow {w0 w : World} {y : Nat} {T : Nat → Option Tw} {U : Nat → Prop} (h : PlayIs w0 w y T U) {o : OpV} (hv : o.view < 0) :
    Calls Tryz.prog 9 #[.pointer (some ⟨y, 0, none⟩), .agg o.arr] w fun e w' => e = .returned (.bool true) ∧ ∃ T' U', PlayIs w0 w' y T' U' := by
  obtain ⟨bx, hbx⟩ : ∃ bx, bx = w.heap.size := ⟨_, rfl⟩
  obtain ⟨X, hX⟩ : ∃ X, X = w.alloc (.cells o.arr 62) := ⟨_, rfl⟩
  have hbX : Below w.heap.size w X := by rw [hX]; exact bal (Below.refl _ _) _
  have hXb : X.heap[bx]? = some (.cells o.arr 62 (0, 0)) := by rw [hX, hbx]; exact heap_new _ _
  have hbl : bx < X.heap.size := by rw [hX, hbx]; simp
  have x0 : X.cell? ⟨bx, 0, none⟩ = some (.int .i64 o.view) := by rw [cell_at hXb]; rfl
  have x1 : X.cell? ⟨bx, 1, none⟩ = some (.int .i64 o.kind) := by rw [cell_at hXb]; rfl
  have hPX := h.below hbX
  have hjy : y ≠ bx := fun e => by have := h.kb.lt; omega
  have hl62 : ∀ W, W.heap[bx]? = X.heap[bx]? → (ld62 (.pointer (some ⟨bx, 0, none⟩))).run Tryz.prog W = .ok (.agg o.arr) W := fun W hW => run_ld62 (range_box (hW.trans hXb))
  have HX : Hid (X = w.alloc (.cells o.arr 62)) := hX
  have HBX := hide hbx; have HP := hide hPX; have HL := hide hl62
  
  clear h hXb hX hbx hbX hPX hl62 x1
  unfold OpV.arr at HX HL ⊢ 
  go_enter Tryz.func9, Tryz.ntmps9
  go_upto_region 1 with fail
  rw [← unhide HX, ← unhide HBX]
  clear HX HBX
  go_wp2_with fail
  go_ret
  exact ⟨rfl, T, U, (unhide HP).below (Below.refl _ X)⟩
set_option maxRecDepth 100000 in
set_option maxHeartbeats 16000000 in
theorem stepHigh {w0 w : World} {y : Nat} {T : Nat → Option Tw} {U : Nat → Prop} (h : PlayIs w0 w y T U) {o : OpV} (hv : o.view > 2) (hv0 : ¬ o.view < 0) :
    Calls Tryz.prog 9 #[.pointer (some ⟨y, 0, none⟩), .agg o.arr] w fun e w' => e = .returned (.bool true) ∧ ∃ T' U', PlayIs w0 w' y T' U' := by
  obtain ⟨bx, hbx⟩ : ∃ bx, bx = w.heap.size := ⟨_, rfl⟩
  obtain ⟨X, hX⟩ : ∃ X, X = w.alloc (.cells o.arr 62) := ⟨_, rfl⟩
  have hbX : Below w.heap.size w X := by rw [hX]; exact bal (Below.refl _ _) _
  have hXb : X.heap[bx]? = some (.cells o.arr 62 (0, 0)) := by rw [hX, hbx]; exact heap_new _ _
  have hbl : bx < X.heap.size := by rw [hX, hbx]; simp
  have x0 : X.cell? ⟨bx, 0, none⟩ = some (.int .i64 o.view) := by rw [cell_at hXb]; rfl
  have x1 : X.cell? ⟨bx, 1, none⟩ = some (.int .i64 o.kind) := by rw [cell_at hXb]; rfl
  have hPX := h.below hbX
  have hjy : y ≠ bx := fun e => by have := h.kb.lt; omega
  have hl62 : ∀ W, W.heap[bx]? = X.heap[bx]? → (ld62 (.pointer (some ⟨bx, 0, none⟩))).run Tryz.prog W = .ok (.agg o.arr) W := fun W hW => run_ld62 (range_box (hW.trans hXb))
  have HX : Hid (X = w.alloc (.cells o.arr 62)) := hX
  have HBX := hide hbx; have HP := hide hPX; have HL := hide hl62
  
  clear h hXb hX hbx hbX hPX hl62 x1
  unfold OpV.arr at HX HL ⊢ 
  go_enter Tryz.func9, Tryz.ntmps9
  go_upto_region 1 with fail
  rw [← unhide HX, ← unhide HBX]
  clear HX HBX
  go_wp2_with fail
  go_ret
  exact ⟨rfl, T, U, (unhide HP).below (Below.refl _ X)⟩
set_option maxRecDepth 100000 in
set_option maxHeartbeats 16000000 in
theorem stepMade1 {w0 w : World} {y : Nat} {T : Nat → Option Tw} {U : Nat → Prop} (h : PlayIs w0 w y T U) {o : OpV} {j : Nat} (hj : j < 3) (hv : o.view = (j : Int)) (hk : o.kind = 1) (hm : ∀ W, Below w.heap.size w W → Calls Tryz.prog 15 #[.pointer (some ⟨y, 0, none⟩), .agg o.arr] W fun e w' => e = .returned (.bool true) ∧ ∃ T' U', PlayIs w0 w' y T' U') :
    Calls Tryz.prog 9 #[.pointer (some ⟨y, 0, none⟩), .agg o.arr] w fun e w' => e = .returned (.bool true) ∧ ∃ T' U', PlayIs w0 w' y T' U' := by
  obtain ⟨bx, hbx⟩ : ∃ bx, bx = w.heap.size := ⟨_, rfl⟩
  obtain ⟨X, hX⟩ : ∃ X, X = w.alloc (.cells o.arr 62) := ⟨_, rfl⟩
  have hbX : Below w.heap.size w X := by rw [hX]; exact bal (Below.refl _ _) _
  have hXb : X.heap[bx]? = some (.cells o.arr 62 (0, 0)) := by rw [hX, hbx]; exact heap_new _ _
  have hbl : bx < X.heap.size := by rw [hX, hbx]; simp
  have x0 : X.cell? ⟨bx, 0, none⟩ = some (.int .i64 o.view) := by rw [cell_at hXb]; rfl
  have x1 : X.cell? ⟨bx, 1, none⟩ = some (.int .i64 o.kind) := by rw [cell_at hXb]; rfl
  have hPX := h.below hbX
  have hjy : y ≠ bx := fun e => by have := h.kb.lt; omega
  have hl62 : ∀ W, W.heap[bx]? = X.heap[bx]? → (ld62 (.pointer (some ⟨bx, 0, none⟩))).run Tryz.prog W = .ok (.agg o.arr) W := fun W hW => run_ld62 (range_box (hW.trans hXb))
  have HX : Hid (X = w.alloc (.cells o.arr 62)) := hX
  have HBX := hide hbx; have HP := hide hPX; have HL := hide hl62
  have hI0 : (0 : Int) ≤ (j : Int) := by omega
  have hI3 : (j : Int) < 3 := by omega
  have hI2 : ¬ (j : Int) > 2 := by omega
  have hI2' : ¬ (2 : Int) < (j : Int) := by omega
  have hIn : ¬ (j : Int) < 0 := by omega
  rw [hv] at x0
  rw [hk] at x1
  have HM : Hid (Calls Tryz.prog 15 #[.pointer (some ⟨y, 0, none⟩), .agg o.arr] X fun e w' => e = .returned (.bool true) ∧ ∃ T' U', PlayIs w0 w' y T' U') := hm X hbX
  have hq := unhide HL X rfl
  clear hm
  clear h hXb hX hbx hbX hPX hl62 hv hk HL HP
  unfold OpV.arr at HX HM hq ⊢ 
  go_enter Tryz.func9, Tryz.ntmps9
  go_upto_region 1 with fail
  rw [← unhide HX, ← unhide HBX]
  clear HX HBX
  go_wp2_with (first | (go_at_call 15; refine (unhide HM).mono ?_; rintro e w1 ⟨rfl, hgo⟩; have HGO := hide hgo; clear hgo))
  go_ret
  exact ⟨rfl, unhide HGO⟩
set_option maxRecDepth 100000 in
set_option maxHeartbeats 16000000 in
theorem stepMade2 {w0 w : World} {y : Nat} {T : Nat → Option Tw} {U : Nat → Prop} (h : PlayIs w0 w y T U) {o : OpV} {j : Nat} (hj : j < 3) (hv : o.view = (j : Int)) (hk : o.kind = 2) (hm : ∀ W, Below w.heap.size w W → Calls Tryz.prog 15 #[.pointer (some ⟨y, 0, none⟩), .agg o.arr] W fun e w' => e = .returned (.bool true) ∧ ∃ T' U', PlayIs w0 w' y T' U') :
    Calls Tryz.prog 9 #[.pointer (some ⟨y, 0, none⟩), .agg o.arr] w fun e w' => e = .returned (.bool true) ∧ ∃ T' U', PlayIs w0 w' y T' U' := by
  obtain ⟨bx, hbx⟩ : ∃ bx, bx = w.heap.size := ⟨_, rfl⟩
  obtain ⟨X, hX⟩ : ∃ X, X = w.alloc (.cells o.arr 62) := ⟨_, rfl⟩
  have hbX : Below w.heap.size w X := by rw [hX]; exact bal (Below.refl _ _) _
  have hXb : X.heap[bx]? = some (.cells o.arr 62 (0, 0)) := by rw [hX, hbx]; exact heap_new _ _
  have hbl : bx < X.heap.size := by rw [hX, hbx]; simp
  have x0 : X.cell? ⟨bx, 0, none⟩ = some (.int .i64 o.view) := by rw [cell_at hXb]; rfl
  have x1 : X.cell? ⟨bx, 1, none⟩ = some (.int .i64 o.kind) := by rw [cell_at hXb]; rfl
  have hPX := h.below hbX
  have hjy : y ≠ bx := fun e => by have := h.kb.lt; omega
  have hl62 : ∀ W, W.heap[bx]? = X.heap[bx]? → (ld62 (.pointer (some ⟨bx, 0, none⟩))).run Tryz.prog W = .ok (.agg o.arr) W := fun W hW => run_ld62 (range_box (hW.trans hXb))
  have HX : Hid (X = w.alloc (.cells o.arr 62)) := hX
  have HBX := hide hbx; have HP := hide hPX; have HL := hide hl62
  have hI0 : (0 : Int) ≤ (j : Int) := by omega
  have hI3 : (j : Int) < 3 := by omega
  have hI2 : ¬ (j : Int) > 2 := by omega
  have hI2' : ¬ (2 : Int) < (j : Int) := by omega
  have hIn : ¬ (j : Int) < 0 := by omega
  rw [hv] at x0
  rw [hk] at x1
  have HM : Hid (Calls Tryz.prog 15 #[.pointer (some ⟨y, 0, none⟩), .agg o.arr] X fun e w' => e = .returned (.bool true) ∧ ∃ T' U', PlayIs w0 w' y T' U') := hm X hbX
  have hq := unhide HL X rfl
  clear hm
  clear h hXb hX hbx hbX hPX hl62 hv hk HL HP
  unfold OpV.arr at HX HM hq ⊢ 
  go_enter Tryz.func9, Tryz.ntmps9
  go_upto_region 1 with fail
  rw [← unhide HX, ← unhide HBX]
  clear HX HBX
  go_wp2_with (first | (go_at_call 15; refine (unhide HM).mono ?_; rintro e w1 ⟨rfl, hgo⟩; have HGO := hide hgo; clear hgo))
  go_ret
  exact ⟨rfl, unhide HGO⟩
set_option maxRecDepth 100000 in
set_option maxHeartbeats 16000000 in
theorem stepMade11 {w0 w : World} {y : Nat} {T : Nat → Option Tw} {U : Nat → Prop} (h : PlayIs w0 w y T U) {o : OpV} {j : Nat} (hj : j < 3) (hv : o.view = (j : Int)) (hk : o.kind = 11) (hm : ∀ W, Below w.heap.size w W → Calls Tryz.prog 15 #[.pointer (some ⟨y, 0, none⟩), .agg o.arr] W fun e w' => e = .returned (.bool true) ∧ ∃ T' U', PlayIs w0 w' y T' U') :
    Calls Tryz.prog 9 #[.pointer (some ⟨y, 0, none⟩), .agg o.arr] w fun e w' => e = .returned (.bool true) ∧ ∃ T' U', PlayIs w0 w' y T' U' := by
  obtain ⟨bx, hbx⟩ : ∃ bx, bx = w.heap.size := ⟨_, rfl⟩
  obtain ⟨X, hX⟩ : ∃ X, X = w.alloc (.cells o.arr 62) := ⟨_, rfl⟩
  have hbX : Below w.heap.size w X := by rw [hX]; exact bal (Below.refl _ _) _
  have hXb : X.heap[bx]? = some (.cells o.arr 62 (0, 0)) := by rw [hX, hbx]; exact heap_new _ _
  have hbl : bx < X.heap.size := by rw [hX, hbx]; simp
  have x0 : X.cell? ⟨bx, 0, none⟩ = some (.int .i64 o.view) := by rw [cell_at hXb]; rfl
  have x1 : X.cell? ⟨bx, 1, none⟩ = some (.int .i64 o.kind) := by rw [cell_at hXb]; rfl
  have hPX := h.below hbX
  have hjy : y ≠ bx := fun e => by have := h.kb.lt; omega
  have hl62 : ∀ W, W.heap[bx]? = X.heap[bx]? → (ld62 (.pointer (some ⟨bx, 0, none⟩))).run Tryz.prog W = .ok (.agg o.arr) W := fun W hW => run_ld62 (range_box (hW.trans hXb))
  have HX : Hid (X = w.alloc (.cells o.arr 62)) := hX
  have HBX := hide hbx; have HP := hide hPX; have HL := hide hl62
  have hI0 : (0 : Int) ≤ (j : Int) := by omega
  have hI3 : (j : Int) < 3 := by omega
  have hI2 : ¬ (j : Int) > 2 := by omega
  have hI2' : ¬ (2 : Int) < (j : Int) := by omega
  have hIn : ¬ (j : Int) < 0 := by omega
  rw [hv] at x0
  rw [hk] at x1
  have HM : Hid (Calls Tryz.prog 15 #[.pointer (some ⟨y, 0, none⟩), .agg o.arr] X fun e w' => e = .returned (.bool true) ∧ ∃ T' U', PlayIs w0 w' y T' U') := hm X hbX
  have hq := unhide HL X rfl
  clear hm
  clear h hXb hX hbx hbX hPX hl62 hv hk HL HP
  unfold OpV.arr at HX HM hq ⊢ 
  go_enter Tryz.func9, Tryz.ntmps9
  go_upto_region 1 with fail
  rw [← unhide HX, ← unhide HBX]
  clear HX HBX
  go_wp2_with (first | (go_at_call 15; refine (unhide HM).mono ?_; rintro e w1 ⟨rfl, hgo⟩; have HGO := hide hgo; clear hgo))
  go_ret
  exact ⟨rfl, unhide HGO⟩
set_option maxRecDepth 100000 in
set_option maxHeartbeats 16000000 in
theorem stepNil {w0 w : World} {y : Nat} {T : Nat → Option Tw} {U : Nat → Prop} (h : PlayIs w0 w y T U) {o : OpV} {j : Nat} (hj : j < 3) (hv : o.view = (j : Int)) (h1 : o.kind ≠ 1) (h2 : o.kind ≠ 2) (h11 : o.kind ≠ 11) (ht : T j = none) :
    Calls Tryz.prog 9 #[.pointer (some ⟨y, 0, none⟩), .agg o.arr] w fun e w' => e = .returned (.bool true) ∧ ∃ T' U', PlayIs w0 w' y T' U' := by
  obtain ⟨bx, hbx⟩ : ∃ bx, bx = w.heap.size := ⟨_, rfl⟩
  obtain ⟨X, hX⟩ : ∃ X, X = w.alloc (.cells o.arr 62) := ⟨_, rfl⟩
  have hbX : Below w.heap.size w X := by rw [hX]; exact bal (Below.refl _ _) _
  have hXb : X.heap[bx]? = some (.cells o.arr 62 (0, 0)) := by rw [hX, hbx]; exact heap_new _ _
  have hbl : bx < X.heap.size := by rw [hX, hbx]; simp
  have x0 : X.cell? ⟨bx, 0, none⟩ = some (.int .i64 o.view) := by rw [cell_at hXb]; rfl
  have x1 : X.cell? ⟨bx, 1, none⟩ = some (.int .i64 o.kind) := by rw [cell_at hXb]; rfl
  have hPX := h.below hbX
  have hjy : y ≠ bx := fun e => by have := h.kb.lt; omega
  have hl62 : ∀ W, W.heap[bx]? = X.heap[bx]? → (ld62 (.pointer (some ⟨bx, 0, none⟩))).run Tryz.prog W = .ok (.agg o.arr) W := fun W hW => run_ld62 (range_box (hW.trans hXb))
  have HX : Hid (X = w.alloc (.cells o.arr 62)) := hX
  have HBX := hide hbx; have HP := hide hPX; have HL := hide hl62
  have hI0 : (0 : Int) ≤ (j : Int) := by omega
  have hI3 : (j : Int) < 3 := by omega
  have hI2 : ¬ (j : Int) > 2 := by omega
  have hI2' : ¬ (2 : Int) < (j : Int) := by omega
  have hIn : ¬ (j : Int) < 0 := by omega
  rw [hv] at x0
  have yP : X.cell? ⟨y, j, none⟩ = some (.pointer none) := by rw [hPX.p j hj, ht]; rfl
  have yD : X.cell? ⟨y, 3 + j, none⟩ = some (.pointer none) := by rw [hPX.d j hj, ht]; rfl
  obtain ⟨k, hk⟩ : ∃ k, k = o.kind := ⟨_, rfl⟩
  rw [← hk] at h1 h2 h11 x1
  have d1 := beq_false_of_ne h1; have d2 := beq_false_of_ne h2; have d11 := beq_false_of_ne h11
  clear h hXb hX hbx hbX hPX hl62 hv hk HL ht
  unfold OpV.arr at HX ⊢ 
  go_enter Tryz.func9, Tryz.ntmps9
  go_upto_region 1 with fail
  rw [← unhide HX, ← unhide HBX]
  clear HX HBX
  go_wp2_with fail
  go_region
  go_wp2_with fail
  go_region
  go_wp2_with fail
  go_ret
  exact ⟨rfl, T, U, (unhide HP).below (below_drewN (Below.refl _ X) 2)⟩
set_option maxRecDepth 100000 in
set_option maxHeartbeats 16000000 in
theorem stepElse {w0 w : World} {y : Nat} {T : Nat → Option Tw} {U : Nat → Prop} (h : PlayIs w0 w y T U) {o : OpV} {j : Nat} (hj : j < 3) (hv : o.view = (j : Int)) {t : Tw} (ht : T j = some t) (h1 : o.kind ≠ 1) (h2 : o.kind ≠ 2) (h3 : o.kind ≠ 3) (h4 : o.kind ≠ 4) (h5 : o.kind ≠ 5) (h6 : o.kind ≠ 6) (h7 : o.kind ≠ 7) (h8 : o.kind ≠ 8) (h9 : o.kind ≠ 9) (h10 : o.kind ≠ 10) (h11 : o.kind ≠ 11) :
    Calls Tryz.prog 9 #[.pointer (some ⟨y, 0, none⟩), .agg o.arr] w fun e w' => e = .returned (.bool true) ∧ ∃ T' U', PlayIs w0 w' y T' U' := by
  obtain ⟨bx, hbx⟩ : ∃ bx, bx = w.heap.size := ⟨_, rfl⟩
  obtain ⟨X, hX⟩ : ∃ X, X = w.alloc (.cells o.arr 62) := ⟨_, rfl⟩
  have hbX : Below w.heap.size w X := by rw [hX]; exact bal (Below.refl _ _) _
  have hXb : X.heap[bx]? = some (.cells o.arr 62 (0, 0)) := by rw [hX, hbx]; exact heap_new _ _
  have hbl : bx < X.heap.size := by rw [hX, hbx]; simp
  have x0 : X.cell? ⟨bx, 0, none⟩ = some (.int .i64 o.view) := by rw [cell_at hXb]; rfl
  have x1 : X.cell? ⟨bx, 1, none⟩ = some (.int .i64 o.kind) := by rw [cell_at hXb]; rfl
  have hPX := h.below hbX
  have hjy : y ≠ bx := fun e => by have := h.kb.lt; omega
  have hl62 : ∀ W, W.heap[bx]? = X.heap[bx]? → (ld62 (.pointer (some ⟨bx, 0, none⟩))).run Tryz.prog W = .ok (.agg o.arr) W := fun W hW => run_ld62 (range_box (hW.trans hXb))
  have HX : Hid (X = w.alloc (.cells o.arr 62)) := hX
  have HBX := hide hbx; have HP := hide hPX; have HL := hide hl62
  have hI0 : (0 : Int) ≤ (j : Int) := by omega
  have hI3 : (j : Int) < 3 := by omega
  have hI2 : ¬ (j : Int) > 2 := by omega
  have hI2' : ¬ (2 : Int) < (j : Int) := by omega
  have hIn : ¬ (j : Int) < 0 := by omega
  rw [hv] at x0
  have yP : X.cell? ⟨y, j, none⟩ = some (.pointer (some ⟨t.pb, 0, none⟩)) := by rw [hPX.p j hj, ht]; rfl
  have yD : X.cell? ⟨y, 3 + j, none⟩ = some (.pointer (some ⟨t.rb, 0, none⟩)) := by rw [hPX.d j hj, ht]; rfl
  obtain ⟨k, hk⟩ : ∃ k, k = o.kind := ⟨_, rfl⟩
  rw [← hk] at x1 h1 h2 h3 h4 h5 h6 h7 h8 h9 h10 h11
  have d1 := beq_false_of_ne h1; have d2 := beq_false_of_ne h2; have d3 := beq_false_of_ne h3; have d4 := beq_false_of_ne h4; have d5 := beq_false_of_ne h5; have d6 := beq_false_of_ne h6; have d7 := beq_false_of_ne h7; have d8 := beq_false_of_ne h8; have d9 := beq_false_of_ne h9; have d10 := beq_false_of_ne h10; have d11 := beq_false_of_ne h11
  clear h hXb hX hbx hbX hPX hl62 hv hk HL ht
  unfold OpV.arr at HX ⊢ 
  go_enter Tryz.func9, Tryz.ntmps9
  go_upto_region 1 with fail
  rw [← unhide HX, ← unhide HBX]
  clear HX HBX
  go_wp2_with fail
  go_region
  go_wp2_with fail
  go_region
  go_wp2_with fail
  go_ret
  exact ⟨rfl, T, U, (unhide HP).below (below_drewN (Below.refl _ X) 2)⟩
set_option maxRecDepth 100000 in
set_option maxHeartbeats 16000000 in
theorem stepL8 {w0 w : World} {y : Nat} {T : Nat → Option Tw} {U : Nat → Prop} (h : PlayIs w0 w y T U) {o : OpV} (ok : OpOk o) {j : Nat} (hj : j < 3) (hv : o.view = (j : Int)) {t : Tw} (ht : T j = some t) (hk : o.kind = 8) :
    Calls Tryz.prog 9 #[.pointer (some ⟨y, 0, none⟩), .agg o.arr] w fun e w' => e = .returned (.bool true) ∧ ∃ T' U', PlayIs w0 w' y T' U' := by
  obtain ⟨bx, hbx⟩ : ∃ bx, bx = w.heap.size := ⟨_, rfl⟩
  obtain ⟨X, hX⟩ : ∃ X, X = w.alloc (.cells o.arr 62) := ⟨_, rfl⟩
  have hbX : Below w.heap.size w X := by rw [hX]; exact bal (Below.refl _ _) _
  have hXb : X.heap[bx]? = some (.cells o.arr 62 (0, 0)) := by rw [hX, hbx]; exact heap_new _ _
  have hbl : bx < X.heap.size := by rw [hX, hbx]; simp
  have x0 : X.cell? ⟨bx, 0, none⟩ = some (.int .i64 o.view) := by rw [cell_at hXb]; rfl
  have x1 : X.cell? ⟨bx, 1, none⟩ = some (.int .i64 o.kind) := by rw [cell_at hXb]; rfl
  have hPX := h.below hbX
  have hjy : y ≠ bx := fun e => by have := h.kb.lt; omega
  have hl62 : ∀ W, W.heap[bx]? = X.heap[bx]? → (ld62 (.pointer (some ⟨bx, 0, none⟩))).run Tryz.prog W = .ok (.agg o.arr) W := fun W hW => run_ld62 (range_box (hW.trans hXb))
  have HX : Hid (X = w.alloc (.cells o.arr 62)) := hX
  have HBX := hide hbx; have HP := hide hPX; have HL := hide hl62
  have HM : Hid (∀ W, Below X.heap.size X W → Calls Tryz.prog 27 #[.pointer (some ⟨y, 0, none⟩), .agg o.arr] W fun e w' => e = .returned (.bool true) ∧ ∃ U', PlayIs w0 w' y T U') := fun W hW => listsO (hPX.below hW) ok hj hv ht hk
  have hI0 : (0 : Int) ≤ (j : Int) := by omega
  have hI3 : (j : Int) < 3 := by omega
  have hI2 : ¬ (j : Int) > 2 := by omega
  have hI2' : ¬ (2 : Int) < (j : Int) := by omega
  have hIn : ¬ (j : Int) < 0 := by omega
  rw [hv] at x0
  have yP : X.cell? ⟨y, j, none⟩ = some (.pointer (some ⟨t.pb, 0, none⟩)) := by rw [hPX.p j hj, ht]; rfl
  have yD : X.cell? ⟨y, 3 + j, none⟩ = some (.pointer (some ⟨t.rb, 0, none⟩)) := by rw [hPX.d j hj, ht]; rfl
  rw [hk] at x1
  have hq := unhide HL X.drew.drew rfl
  clear h hXb hX hbx hbX hPX hl62 hv hk HL HP ht ok
  unfold OpV.arr at HX HM hq ⊢ 
  go_enter Tryz.func9, Tryz.ntmps9
  go_upto_region 1 with fail
  rw [← unhide HX, ← unhide HBX]
  clear HX HBX
  go_wp2_with fail
  go_region
  go_wp2_with fail
  go_region
  go_wp2_with (first | (go_at_call 27; refine (unhide HM _ (below_drewN (Below.refl _ X) 2)).mono ?_; rintro e w1 ⟨rfl, hgo⟩; have HGO := hide hgo; clear hgo))
  go_ret
  obtain ⟨U', hfin⟩ := unhide HGO
  exact ⟨rfl, T, U', hfin⟩
set_option maxRecDepth 100000 in
set_option maxHeartbeats 16000000 in
theorem stepL9 {w0 w : World} {y : Nat} {T : Nat → Option Tw} {U : Nat → Prop} (h : PlayIs w0 w y T U) {o : OpV} (ok : OpOk o) {j : Nat} (hj : j < 3) (hv : o.view = (j : Int)) {t : Tw} (ht : T j = some t) (hk : o.kind = 9) :
    Calls Tryz.prog 9 #[.pointer (some ⟨y, 0, none⟩), .agg o.arr] w fun e w' => e = .returned (.bool true) ∧ ∃ T' U', PlayIs w0 w' y T' U' := by
  obtain ⟨bx, hbx⟩ : ∃ bx, bx = w.heap.size := ⟨_, rfl⟩
  obtain ⟨X, hX⟩ : ∃ X, X = w.alloc (.cells o.arr 62) := ⟨_, rfl⟩
  have hbX : Below w.heap.size w X := by rw [hX]; exact bal (Below.refl _ _) _
  have hXb : X.heap[bx]? = some (.cells o.arr 62 (0, 0)) := by rw [hX, hbx]; exact heap_new _ _
  have hbl : bx < X.heap.size := by rw [hX, hbx]; simp
  have x0 : X.cell? ⟨bx, 0, none⟩ = some (.int .i64 o.view) := by rw [cell_at hXb]; rfl
  have x1 : X.cell? ⟨bx, 1, none⟩ = some (.int .i64 o.kind) := by rw [cell_at hXb]; rfl
  have hPX := h.below hbX
  have hjy : y ≠ bx := fun e => by have := h.kb.lt; omega
  have hl62 : ∀ W, W.heap[bx]? = X.heap[bx]? → (ld62 (.pointer (some ⟨bx, 0, none⟩))).run Tryz.prog W = .ok (.agg o.arr) W := fun W hW => run_ld62 (range_box (hW.trans hXb))
  have HX : Hid (X = w.alloc (.cells o.arr 62)) := hX
  have HBX := hide hbx; have HP := hide hPX; have HL := hide hl62
  have HM : Hid (∀ W, Below X.heap.size X W → Calls Tryz.prog 27 #[.pointer (some ⟨y, 0, none⟩), .agg o.arr] W fun e w' => e = .returned (.bool true) ∧ ∃ U', PlayIs w0 w' y T U') := fun W hW => listsC (hPX.below hW) ok hj hv ht hk
  have hI0 : (0 : Int) ≤ (j : Int) := by omega
  have hI3 : (j : Int) < 3 := by omega
  have hI2 : ¬ (j : Int) > 2 := by omega
  have hI2' : ¬ (2 : Int) < (j : Int) := by omega
  have hIn : ¬ (j : Int) < 0 := by omega
  rw [hv] at x0
  have yP : X.cell? ⟨y, j, none⟩ = some (.pointer (some ⟨t.pb, 0, none⟩)) := by rw [hPX.p j hj, ht]; rfl
  have yD : X.cell? ⟨y, 3 + j, none⟩ = some (.pointer (some ⟨t.rb, 0, none⟩)) := by rw [hPX.d j hj, ht]; rfl
  rw [hk] at x1
  have hq := unhide HL X.drew.drew rfl
  clear h hXb hX hbx hbX hPX hl62 hv hk HL HP ht ok
  unfold OpV.arr at HX HM hq ⊢ 
  go_enter Tryz.func9, Tryz.ntmps9
  go_upto_region 1 with fail
  rw [← unhide HX, ← unhide HBX]
  clear HX HBX
  go_wp2_with fail
  go_region
  go_wp2_with fail
  go_region
  go_wp2_with (first | (go_at_call 27; refine (unhide HM _ (below_drewN (Below.refl _ X) 2)).mono ?_; rintro e w1 ⟨rfl, hgo⟩; have HGO := hide hgo; clear hgo))
  go_ret
  obtain ⟨U', hfin⟩ := unhide HGO
  exact ⟨rfl, T, U', hfin⟩
set_option maxRecDepth 100000 in
set_option maxHeartbeats 16000000 in
theorem stepL10 {w0 w : World} {y : Nat} {T : Nat → Option Tw} {U : Nat → Prop} (h : PlayIs w0 w y T U) {o : OpV} (ok : OpOk o) {j : Nat} (hj : j < 3) (hv : o.view = (j : Int)) {t : Tw} (ht : T j = some t) (hk : o.kind = 10) :
    Calls Tryz.prog 9 #[.pointer (some ⟨y, 0, none⟩), .agg o.arr] w fun e w' => e = .returned (.bool true) ∧ ∃ T' U', PlayIs w0 w' y T' U' := by
  obtain ⟨bx, hbx⟩ : ∃ bx, bx = w.heap.size := ⟨_, rfl⟩
  obtain ⟨X, hX⟩ : ∃ X, X = w.alloc (.cells o.arr 62) := ⟨_, rfl⟩
  have hbX : Below w.heap.size w X := by rw [hX]; exact bal (Below.refl _ _) _
  have hXb : X.heap[bx]? = some (.cells o.arr 62 (0, 0)) := by rw [hX, hbx]; exact heap_new _ _
  have hbl : bx < X.heap.size := by rw [hX, hbx]; simp
  have x0 : X.cell? ⟨bx, 0, none⟩ = some (.int .i64 o.view) := by rw [cell_at hXb]; rfl
  have x1 : X.cell? ⟨bx, 1, none⟩ = some (.int .i64 o.kind) := by rw [cell_at hXb]; rfl
  have hPX := h.below hbX
  have hjy : y ≠ bx := fun e => by have := h.kb.lt; omega
  have hl62 : ∀ W, W.heap[bx]? = X.heap[bx]? → (ld62 (.pointer (some ⟨bx, 0, none⟩))).run Tryz.prog W = .ok (.agg o.arr) W := fun W hW => run_ld62 (range_box (hW.trans hXb))
  have HX : Hid (X = w.alloc (.cells o.arr 62)) := hX
  have HBX := hide hbx; have HP := hide hPX; have HL := hide hl62
  have HM : Hid (∀ W, Below X.heap.size X W → Calls Tryz.prog 27 #[.pointer (some ⟨y, 0, none⟩), .agg o.arr] W fun e w' => e = .returned (.bool true) ∧ ∃ U', PlayIs w0 w' y T U') := fun W hW => listsA (hPX.below hW) ok hj hv ht hk
  have hI0 : (0 : Int) ≤ (j : Int) := by omega
  have hI3 : (j : Int) < 3 := by omega
  have hI2 : ¬ (j : Int) > 2 := by omega
  have hI2' : ¬ (2 : Int) < (j : Int) := by omega
  have hIn : ¬ (j : Int) < 0 := by omega
  rw [hv] at x0
  have yP : X.cell? ⟨y, j, none⟩ = some (.pointer (some ⟨t.pb, 0, none⟩)) := by rw [hPX.p j hj, ht]; rfl
  have yD : X.cell? ⟨y, 3 + j, none⟩ = some (.pointer (some ⟨t.rb, 0, none⟩)) := by rw [hPX.d j hj, ht]; rfl
  rw [hk] at x1
  have hq := unhide HL X.drew.drew rfl
  clear h hXb hX hbx hbX hPX hl62 hv hk HL HP ht ok
  unfold OpV.arr at HX HM hq ⊢ 
  go_enter Tryz.func9, Tryz.ntmps9
  go_upto_region 1 with fail
  rw [← unhide HX, ← unhide HBX]
  clear HX HBX
  go_wp2_with fail
  go_region
  go_wp2_with fail
  go_region
  go_wp2_with (first | (go_at_call 27; refine (unhide HM _ (below_drewN (Below.refl _ X) 2)).mono ?_; rintro e w1 ⟨rfl, hgo⟩; have HGO := hide hgo; clear hgo))
  go_ret
  obtain ⟨U', hfin⟩ := unhide HGO
  exact ⟨rfl, T, U', hfin⟩
theorem step_any {w0 w : World} {y : Nat} {T : Nat → Option Tw} {U : Nat → Prop} (h : PlayIs w0 w y T U) {o : OpV} (ok : OpOk o) (hin : OpIn w o) :
    Calls Tryz.prog 9 #[.pointer (some ⟨y, 0, none⟩), .agg o.arr] w fun e w' => e = .returned (.bool true) ∧ ∃ T' U', PlayIs w0 w' y T' U' := by
  by_cases hl : o.view < 0
  · exact stepLow h hl
  by_cases hh : o.view > 2
  · exact stepHigh h hh hl
  obtain ⟨j, hv⟩ : ∃ j : Nat, o.view = (j : Int) := ⟨o.view.toNat, by omega⟩
  have hj : j < 3 := by omega
  by_cases k1 : o.kind = 1
  · exact stepMade1 h hj hv k1 (fun W hW => made1 (h.below hW) ok hj hv k1)
  by_cases k2 : o.kind = 2
  · refine stepMade2 h hj hv k2 (fun W hW => ?_)
    have hi : OpIn W o := ⟨hin.lC.below hW, hin.lA.below hW⟩
    by_cases hf : FromOk o.C o.A o.day
    · exact made2ok (h.below hW) ok hi hj hv k2 hf
    · exact made2no (h.below hW) ok hi hj hv k2 hf
  by_cases k11 : o.kind = 11
  · refine stepMade11 h hj hv k11 (fun W hW => ?_)
    cases ht : T j with
    | none => exact made11nil (h.below hW) ok hj hv ht k11
    | some t =>
      by_cases hf : FromOk t.C t.A (1 + t.g)
      · exact made11ok (h.below hW) ok hj hv ht k11 hf
      · exact made11no (h.below hW) ok hj hv ht k11 hf
  cases ht : T j with
  | none => exact stepNil h hj hv k1 k2 k11 ht
  | some t =>
    by_cases k3 : o.kind = 3
    · exact step3 h ok hj hv ht k3
    by_cases k4 : o.kind = 4
    · exact step4 h ok hj hv ht k4
    by_cases k5 : o.kind = 5
    · exact step5 h ok hj hv ht k5
    by_cases k6 : o.kind = 6
    · exact step6 h ok hj hv ht k6
    by_cases k7 : o.kind = 7
    · exact step7 h ok hj hv ht k7
    by_cases k8 : o.kind = 8
    · exact stepL8 h ok hj hv ht k8
    by_cases k9 : o.kind = 9
    · exact stepL9 h ok hj hv ht k9
    by_cases k10 : o.kind = 10
    · exact stepL10 h ok hj hv ht k10
    exact stepElse h hj hv ht k1 k2 k3 k4 k5 k6 k7 k8 k9 k10 k11
end Go.Proofs.YtfclknlpdcanpaaGreatDoor.Kg
