/- store.Frame (24). -/
import Derived.Test.YtpeebhddpmggdaaDoorFrmN
namespace Go.Proofs.YtpeebhddpmggdaaDoor
open Go Go.ChangeShapes Go.WideShapes Go.ChangeAt Go.RowKit
set_option linter.unusedVariables false
attribute [local go_sem] setCell_drewN alloc_drewN
theorem run_mk27 (n : Nat) (hn : n ≤ 2048) (w : World) : (Instr.makeSlice 23 (.int .i64 0) (.int .i64 (8 + (n : Int)))).run Tryd.prog w = .ok (.slice (some ⟨w.heap.size, 0, none⟩) 0 (8 + n)) (w.alloc (.cells (madeCells #[.int .u8 0] (8 + n)) 5)) := by
  obtain ⟨i0, hi, hz0, hsz, hz2⟩ := info_parts info5
  have h := run_make (P := Tryd.prog) w 23 5 i0 (.int .u8 0) Tryd.underlying23 hi hz0 .i64 .i64 0 (8 + (n : Int)) (by omega) (by omega) (by rw [hz2]; omega) (by omega)
  rw [hsz, Nat.mul_one, show (8 + (n : Int)).toNat = 8 + n by omega] at h
  exact h
set_option maxHeartbeats 1000000 in
theorem of_none (f : Nat → Nat) (a0 : Option Addr) (cap : Nat) (w : World) : Calls Tryd.prog 8 #[.slice a0 0 cap] w fun e w' => e = .returned (.int .u32 (crc f 0 : Int)) ∧ ∃ n, w' = w.drewN n := by
  have hlast : bits .xor .u32 IntKind.u32.max 4294967295 = 0 := by decide
  have h0 : ((crc f 0 : Nat) : Int) = 0 := by simp [crc, crcAt]
  rw [h0]
  go_enter Tryd.func8, Tryd.ntmps8
  go_wp2_with fail
  go_loopw [3, 8] (fun s i wr => i = .int .i64 0 ∧ s = .int .u32 4294967295 ∧ wr = w) (fun _ i _ => 0)
  case atStart => exact ⟨rfl, rfl, rfl⟩
  case round =>
    obtain ⟨rfl, rfl, rfl⟩ := hrel
    go_wp2_with fail
    go_ret
    exact ⟨rfl, 0, rfl⟩
set_option maxHeartbeats 1000000 in
theorem frame_long (a0 : Option Addr) (n cap : Nat) (hn : 2048 < n) (w : World) : Calls Tryd.prog 5 #[.slice a0 n cap] w fun e w' => e = .returned (.tuple #[.slice none 0 0, .int .i64 3]) ∧ w' = w := by
  have h0 : (2048 : Int) < (n : Int) := by omega
  clear hn
  go_enter Tryd.func5, Tryd.ntmps5
  go_wp2_with fail
  go_ret2
  exact ⟨rfl, rfl⟩
set_option maxRecDepth 100000 in
theorem xor255 : ∀ x, x < 256 → 255 ^^^ x = 255 - x := by decide
theorem not8 (x : Nat) (hx : x < 256) : bits .xor .u8 IntKind.u8.max (x : Int) = ((255 - x : Nat) : Int) := by
  have h := u8_xor_nat 255 x (by omega) hx
  rw [xor255 x hx] at h
  exact h
theorem cell_four_new (w : World) (a b c d : Value) (t : TypeId) : ∀ j u, [a, b, c, d][j]? = some u → (w.alloc (.cells #[a, b, c, d] t)).cell? ((⟨w.heap.size, 0, none⟩ : Addr).add j) = some u := by
  intro j u hj
  have h4 : j < 4 := by
    rcases Nat.lt_or_ge j 4 with h | h
    · exact h
    · rw [List.getElem?_eq_none (by simpa using h)] at hj; cases hj
  rw [Addr.add_mid, Nat.zero_add]
  have : j = 0 ∨ j = 1 ∨ j = 2 ∨ j = 3 := by omega
  rcases this with rfl | rfl | rfl | rfl <;> simp at hj <;> subst hj <;> simp
theorem four_one (a b c d : Int) : ∀ u ∈ ([.int .u8 a, .int .u8 b, .int .u8 c, .int .u8 d] : List Value), u.oneCell' = true := by
  intro u hu
  simp only [List.mem_cons, List.not_mem_nil, or_false] at hu
  rcases hu with rfl | rfl | rfl | rfl <;> rfl
theorem bcells_two (f : Nat → Nat) : bcells f 2 = [.int .u8 (f 0 : Int), .int .u8 (f 1 : Int)] := rfl
theorem bcells_four (f : Nat → Nat) : bcells f 4 = [.int .u8 (f 0 : Int), .int .u8 (f 1 : Int), .int .u8 (f 2 : Int), .int .u8 (f 3 : Int)] := rfl
theorem frame_cells (f : Nat → Nat) (n C : Nat) (hn : n ≤ 2048) (hC : crc f n = C) (c0 c1 c2 c3 : Int) (h0 : c0 = ((C % 256 : Nat) : Int)) (h1 : c1 = ((C / 256 % 256 : Nat) : Int)) (h2 : c2 = ((C / 65536 % 256 : Nat) : Int)) (h3 : c3 = ((C / 16777216 % 256 : Nat) : Int)) :
    ([.int .u8 ((n : Int) % 256), .int .u8 ((n : Int) / 256), .int .u8 ((255 - n % 256 : Nat) : Int), .int .u8 ((255 - n / 256 : Nat) : Int)] ++ [.int .u8 c0, .int .u8 c1, .int .u8 c2, .int .u8 c3]) ++ bcells f n = bcells (frB f n) (8 + n) := by
  unfold frB
  rw [← bcells_cat, hC, ← bcells_cat (cat (lowB n) 2 (lowB (65535 - n))) (lowB C) 4 4, ← bcells_cat (lowB n) (lowB (65535 - n)) 2 2, bcells_two, bcells_two, bcells_four, h0, h1, h2, h3]
  have e0 : ((lowB n 0 : Nat) : Int) = (n : Int) % 256 := by simp [lowB]
  have e1 : ((lowB n 1 : Nat) : Int) = (n : Int) / 256 := by simp only [lowB, Nat.pow_one]; omega
  have e2 : lowB (65535 - n) 0 = 255 - n % 256 := by simp only [lowB, Nat.pow_zero, Nat.div_one]; omega
  have e3 : lowB (65535 - n) 1 = 255 - n / 256 := by simp only [lowB, Nat.pow_one]; omega
  have g0 : lowB C 0 = C % 256 := by simp [lowB]
  have g1 : lowB C 1 = C / 256 % 256 := by simp [lowB]
  have g2 : lowB C 2 = C / 65536 % 256 := rfl
  have g3 : lowB C 3 = C / 16777216 % 256 := rfl
  rw [e0, e1, e2, e3, g0, g1, g2, g3]
  rfl
set_option maxRecDepth 100000 in
set_option maxHeartbeats 4000000 in
theorem frame_some (f : Nat → Nat) (hf : Hid (∀ k, f k < 256)) (b off n cap : Nat) (hn : n ≤ 2048) (w : World) (hb : 0 < n → b < w.heap.size) (hc : Hid (∀ k, k < n → w.cell? ⟨b, off + k, none⟩ = some (.int .u8 (f k : Int)))) (hS : Hid (Stp w)) :
    Calls Tryd.prog 5 #[.slice (some ⟨b, off, none⟩) n cap] w fun e w' => FOut f n w e w' := by
  obtain ⟨i0, hi, hz0, hz1, hz2⟩ := info_parts info5
  have HI := hide hi; have HZ0 := hide hz0; have HZ1 := hide hz1; have HZ2 := hide hz2
  have hmk := fun W => run_mk27 n hn W
  have h0 : ¬ (2048 : Int) < (n : Int) := by omega
  have hsg : IntKind.u8.signed = false := rfl
  have hcl := hide (of_sum f hf b off n cap (by omega) w hc hS)
  obtain ⟨C, hC⟩ : ∃ C, crc f n = C := ⟨_, rfl⟩
  have HC := hide hC
  rw [hC] at hcl
  clear hi hz0 hz1 hz2 hC
  go_enter Tryd.func5, Tryd.ntmps5
  go_wp2_with fail
  refine (unhide hcl).mono ?_
  rintro e w1 ⟨rfl, n1, hw⟩
  have HB1 := hide (show Below w.heap.size w w1 from by rw [hw]; exact below_drewN (Below.refl _ _) n1)
  clear hw
  have n1 : (n : Int) % 256 = ((n % 256 : Nat) : Int) := by omega
  have n2 : (n : Int) / 256 = ((n / 256 : Nat) : Int) := by omega
  have x2 := not8 (n % 256) (by omega)
  have x3 := not8 (n / 256) (by omega)
  rw [← n1] at x2
  rw [← n2] at x3
  obtain ⟨X2, hX2⟩ : ∃ X : Int, ((255 - n % 256 : Nat) : Int) = X := ⟨_, rfl⟩
  obtain ⟨X3, hX3⟩ : ∃ X : Int, ((255 - n / 256 : Nat) : Int) = X := ⟨_, rfl⟩
  rw [hX2] at x2
  rw [hX3] at x3
  have HX2 := hide hX2
  have HX3 := hide hX3
  have hC32 := crc_lt f (unhide hf) n
  rw [unhide HC] at hC32
  have s1 := (unhide HB1).size
  clear n1 n2 hX2 hX3
  have O1 := hide (World.ownsRow_made (base := w.heap.size) (e := 5) (size := 1) w1 (madeCells #[.int .u8 0] (8 + n)) (8 + n) s1 (by unfold maxLen; omega) (by simp [madeCells]))
  have hn4 := hide (show ∀ j u, ([.int .u8 ((n : Int) % 256), .int .u8 ((n : Int) / 256), .int .u8 X2, .int .u8 X3] : List Value)[j]? = some u → ((w1.alloc (.cells (madeCells #[.int .u8 0] (8 + n)) 5)).alloc (.cells #[.int .u8 ((n : Int) % 256), .int .u8 ((n : Int) / 256), .int .u8 X2, .int .u8 X3] 5)).cell? ((⟨w1.heap.size + 1, 0, none⟩ : Addr).add j) = some u from by
    have h := cell_four_new (w1.alloc (.cells (madeCells #[.int .u8 0] (8 + n)) 5)) (.int .u8 ((n : Int) % 256)) (.int .u8 ((n : Int) / 256)) (.int .u8 X2) (.int .u8 X3) 5
    rw [World.size_alloc] at h
    exact h)
  go_wp2_with (first
    | (at_builtin; refine wpList_append_own _ rfl _ _ 23 rfl w.heap.size 5 i0 (.int .u8 0) 1 1 Tryd.underlying23 (unhide HI) (unhide HZ0) (unhide HZ1) (unhide HZ2) rfl (by decide) _ _ _ rfl ((unhide O1).alloc _) ⟨w1.heap.size + 1, 0, none⟩ 4 4 [.int .u8 ((n : Int) % 256), .int .u8 ((n : Int) / 256), .int .u8 X2, .int .u8 X3] rfl rfl (unhide hn4) (four_one _ _ _ _) (by unfold maxLen; omega) (by omega) (by simp; omega) ?_; intro v2 w2 hown2 hgrow2 _; have O2 := hide hown2; have B2 := hide (Below.grown (bal (bal (unhide HB1) _) _) hgrow2 (by simp; omega) (fun j hj => ((unhide O1).lt j hj).1)); have s2 := (unhide B2).size; clear hown2 hgrow2)
    | (at_builtin; refine wpList_append_own _ rfl _ _ 23 rfl w.heap.size 5 i0 (.int .u8 0) 1 1 Tryd.underlying23 (unhide HI) (unhide HZ0) (unhide HZ1) (unhide HZ2) rfl (by decide) _ _ _ rfl ((unhide O2).alloc _) ⟨w2.heap.size, 0, none⟩ 4 4 [.int .u8 _, .int .u8 _, .int .u8 _, .int .u8 _] rfl rfl (cell_four_new w2 _ _ _ _ 5) (four_one _ _ _ _) (by unfold maxLen; omega) (by omega) (by simp; omega) ?_; intro v3 w3 hown3 hgrow3 _; have O3 := hide hown3; have B3 := hide (Below.grown (bal (unhide B2) _) hgrow3 (by simp; omega) (fun j hj => ((unhide O2).lt j hj).1)); have s3 := (unhide B3).size; have hc3 := hide (fun j (hj : j < n) => (unhide B3).cell (p := ⟨b, off + j, none⟩) (hb (by omega)) |>.trans (unhide hc j hj)); clear hown3 hgrow3)
    | (at_builtin; refine wpList_append_own _ rfl _ _ 23 rfl w.heap.size 5 i0 (.int .u8 0) 1 1 Tryd.underlying23 (unhide HI) (unhide HZ0) (unhide HZ1) (unhide HZ2) rfl (by decide) _ _ _ rfl (unhide O3) ⟨b, off, none⟩ n cap (bcells f n) rfl (by rw [bcells_len]; omega) (fun j u hj => by obtain ⟨h1, h2⟩ := bcells_get' hj; rw [h2, Addr.add_mid]; exact unhide hc3 j h1) (bcells_one _ _) (by unfold maxLen; omega) (by omega) s3 ?_; intro v4 w4 hown4 hgrow4 _; have O4 := hide hown4; have B4 := hide (Below.grown (unhide B3) hgrow4 s3 (fun j hj => ((unhide O3).lt j hj).1)); clear hown4 hgrow4))
  go_ret2
  refine ⟨fun h => by omega, fun _ => ⟨v4, rfl, ?_⟩, unhide B4⟩
  have h := unhide O4
  rw [List.nil_append, ← unhide HX2, ← unhide HX3, frame_cells f n C hn (unhide HC) _ _ _ _ (by omega) (by omega) (by omega) (by omega), show 0 + 4 + 4 + n = 8 + n by omega] at h
  exact h
theorem run_mk27z (w : World) : (Instr.makeSlice 23 (.int .i64 0) (.int .i64 8)).run Tryd.prog w = .ok (.slice (some ⟨w.heap.size, 0, none⟩) 0 8) (w.alloc (.cells (madeCells #[.int .u8 0] 8) 5)) := run_mk27 0 (by omega) w
theorem crc_zero (f : Nat → Nat) : crc f 0 = 0 := by simp [crc, crcAt]
set_option maxRecDepth 100000 in
set_option maxHeartbeats 4000000 in
theorem frame_none (f : Nat → Nat) (w : World) : Calls Tryd.prog 5 #[.slice none 0 0] w fun e w' => FOut f 0 w e w' := by
  obtain ⟨i0, hi, hz0, hz1, hz2⟩ := info_parts info5
  have HI := hide hi; have HZ0 := hide hz0; have HZ1 := hide hz1; have HZ2 := hide hz2
  have hmk := fun W => run_mk27z W
  have hsg : IntKind.u8.signed = false := rfl
  have hcl := hide (of_none f none 0 w)
  rw [crc_zero] at hcl
  clear hi hz0 hz1 hz2
  have x2 : bits .xor .u8 IntKind.u8.max 0 = 255 := by decide
  go_enter Tryd.func5, Tryd.ntmps5
  go_wp2_with fail
  refine (unhide hcl).mono ?_
  rintro e w1 ⟨rfl, n1, hw⟩
  have HB1 := hide (show Below w.heap.size w w1 from by rw [hw]; exact below_drewN (Below.refl _ _) n1)
  clear hw
  have s1 := (unhide HB1).size
  have O1 := hide (World.ownsRow_made (base := w.heap.size) (e := 5) (size := 1) w1 (madeCells #[.int .u8 0] 8) 8 s1 (by unfold maxLen; omega) (by simp [madeCells]))
  have hn4 := hide (show ∀ j u, ([.int .u8 0, .int .u8 0, .int .u8 255, .int .u8 255] : List Value)[j]? = some u → ((w1.alloc (.cells (madeCells #[.int .u8 0] 8) 5)).alloc (.cells #[.int .u8 0, .int .u8 0, .int .u8 255, .int .u8 255] 5)).cell? ((⟨w1.heap.size + 1, 0, none⟩ : Addr).add j) = some u from by
    have h := cell_four_new (w1.alloc (.cells (madeCells #[.int .u8 0] 8) 5)) (.int .u8 0) (.int .u8 0) (.int .u8 255) (.int .u8 255) 5
    rw [World.size_alloc] at h
    exact h)
  go_wp2_with (first
    | (at_builtin; refine wpList_append_own _ rfl _ _ 23 rfl w.heap.size 5 i0 (.int .u8 0) 1 1 Tryd.underlying23 (unhide HI) (unhide HZ0) (unhide HZ1) (unhide HZ2) rfl (by decide) _ _ _ rfl ((unhide O1).alloc _) ⟨w1.heap.size + 1, 0, none⟩ 4 4 [.int .u8 0, .int .u8 0, .int .u8 255, .int .u8 255] rfl rfl (unhide hn4) (four_one _ _ _ _) (by unfold maxLen; omega) (by omega) (by simp; omega) ?_; intro v2 w2 hown2 hgrow2 _; have O2 := hide hown2; have B2 := hide (Below.grown (bal (bal (unhide HB1) _) _) hgrow2 (by simp; omega) (fun j hj => ((unhide O1).lt j hj).1)); have s2 := (unhide B2).size; clear hown2 hgrow2)
    | (at_builtin; refine wpList_append_own _ rfl _ _ 23 rfl w.heap.size 5 i0 (.int .u8 0) 1 1 Tryd.underlying23 (unhide HI) (unhide HZ0) (unhide HZ1) (unhide HZ2) rfl (by decide) _ _ _ rfl ((unhide O2).alloc _) ⟨w2.heap.size, 0, none⟩ 4 4 [.int .u8 0, .int .u8 0, .int .u8 0, .int .u8 0] rfl rfl (cell_four_new w2 _ _ _ _ 5) (four_one _ _ _ _) (by unfold maxLen; omega) (by omega) (by simp; omega) ?_; intro v3 w3 hown3 hgrow3 _; have O3 := hide hown3; have B3 := hide (Below.grown (bal (unhide B2) _) hgrow3 (by simp; omega) (fun j hj => ((unhide O2).lt j hj).1)); clear hown3 hgrow3)
    | (at_builtin; refine wpList_append_own_none rfl _ _ 23 rfl w.heap.size 5 i0 1 Tryd.underlying23 (unhide HI) _ _ _ rfl (unhide O3) rfl ?_))
  go_ret2
  refine ⟨fun h => by omega, fun _ => ⟨v3, rfl, ?_⟩, unhide B3⟩
  have h := unhide O3
  have e := frame_cells f 0 0 (by omega) (crc_zero f) 0 0 0 0 rfl rfl rfl rfl
  rw [← e]
  exact h
theorem frame_any {f : Nat → Nat} {v : Value} {n : Nat} {w : World} (hf : ∀ k, f k < 256) (h : BLies f v n w) (hS : Stp w) : Calls Tryd.prog 5 #[v] w fun e w' => FOut f n w e w' := by
  rcases h with ⟨rfl, rfl⟩ | ⟨b, off, cap, rfl, h2, h3⟩
  · exact frame_none f w
  · by_cases hn : n ≤ 2048
    · exact frame_some f (hide hf) b off n cap hn w h2 (hide h3) (hide hS)
    · refine (frame_long _ n cap (by omega) w).mono ?_
      rintro e w' ⟨rfl, rfl⟩
      exact ⟨fun _ => rfl, fun h => absurd h hn, Below.refl _ _⟩
end Go.Proofs.YtpeebhddpmggdaaDoor
