import Derived.Test.YtbenciieenbmeaaGreatDoorW14
import Derived.Laws.Externs
/- answer: signWord 129, Add64 139, plus 128. -/
namespace Go.Proofs.YtbenciieenbmeaaGreatDoor
open Go Go.Shelf Go.ChangeShapes Go.WideShapes Go.ChangeAt Go.RowKit Go.Maps
set_option linter.unusedVariables false
/-- the word above -/
def sgnW (a : Int) : Int := (a / 9223372036854775808) % 18446744073709551616
theorem uw_mod (a : Int) : IntKind.u64.wrap a = a % 18446744073709551616 := by
  simp only [IntKind.wrap, IntKind.bits, IntKind.signed, Bool.false_and, Bool.false_eq_true, if_false]
  omega
theorem sgnW_bd (a : Int) : 0 ≤ sgnW a ∧ sgnW a < 18446744073709551616 := by unfold sgnW; omega
set_option maxHeartbeats 1000000 in
theorem sgn_any (a : Int) (w : World) (h : -9223372036854775808 ≤ a) (h' : a ≤ 9223372036854775807) : Calls Tryz.prog 129 #[.int .i64 a] w fun e w' => e = .returned (.int .u64 (sgnW a)) ∧ w' = w := by
  have e := hide (uw_mod (a / 9223372036854775808))
  go_enter Tryz.func129, Tryz.ntmps129
  go_wp2
  go_ret
  exact ⟨by rw [show sgnW a = IntKind.u64.wrap (a / 9223372036854775808) from (unhide e).symm]; rfl, rfl⟩

theorem add64_at (x y c s k : Int) (hx : 0 ≤ x) (hy : 0 ≤ y) (hc0 : 0 ≤ c) (hc : c ≤ 1) (hs : (x + y + c) % 18446744073709551616 = s) (hk : (x + y + c) / 18446744073709551616 = k) (w : World) :
    (callFunc 139 #[.int .u64 x, .int .u64 y, .int .u64 c]).run Tryz.prog w = .ok (.value (.tuple #[.int .u64 s, .int .u64 k])) w := by
  rw [run_callFunc_extern Tryz.func139 (by kernel_rfl) (by kernel_rfl) (by kernel_rfl) (e := add64Entry) (by kernel_rfl), run_add64 x y c hx hy hc0 hc, hs, hk]
  simp only [Result.andThen]


def hiW (z : Int) : Int := (z / 18446744073709551616) % 18446744073709551616
def loW (z : Int) : Int := z % 18446744073709551616
abbrev wdV (z : Int) : Value := .agg #[.int .u64 (hiW z), .int .u64 (loW z)]
theorem hiW_bd (z : Int) : 0 ≤ hiW z ∧ hiW z < 18446744073709551616 := by unfold hiW; omega
theorem loW_bd (z : Int) : 0 ≤ loW z ∧ loW z < 18446744073709551616 := by unfold loW; omega
theorem wide_plus (z n : Int) (hn : I64 n) : (loW z + n % 18446744073709551616 + 0) % 18446744073709551616 = loW (z + n) ∧ (hiW z + sgnW n + (loW z + n % 18446744073709551616 + 0) / 18446744073709551616) % 18446744073709551616 = hiW (z + n) := by
  unfold I64 at hn
  unfold loW hiW
  refine ⟨by omega, ?_⟩
  by_cases h0 : 0 ≤ n
  · have e1 : n % 18446744073709551616 = n := by omega
    have e2 : sgnW n = 0 := by unfold sgnW; omega
    have e3 : (z + n) / 18446744073709551616 = z / 18446744073709551616 + (z % 18446744073709551616 + n + 0) / 18446744073709551616 := by omega
    rw [e1, e2, e3]
    generalize (z % 18446744073709551616 + n + 0) / 18446744073709551616 = c
    generalize z / 18446744073709551616 = q
    omega
  · have e1 : n % 18446744073709551616 = n + 18446744073709551616 := by omega
    have e2 : sgnW n = 18446744073709551615 := by unfold sgnW; omega
    have e3 : (z + n) / 18446744073709551616 = z / 18446744073709551616 - 1 + (z % 18446744073709551616 + (n + 18446744073709551616) + 0) / 18446744073709551616 := by omega
    rw [e1, e2, e3]
    generalize (z % 18446744073709551616 + (n + 18446744073709551616) + 0) / 18446744073709551616 = c
    generalize z / 18446744073709551616 = q
    omega
set_option maxRecDepth 100000
set_option maxHeartbeats 2000000
theorem plus_any (z n : Int) (hn : I64 n) (w : World) : Calls Tryz.prog 128 #[wdV z, .int .i64 n] w fun e w' => e = .returned (wdV (z + n)) ∧ Below w.heap.size w w' := by
  obtain ⟨p1, p2⟩ := wide_plus z n hn
  have hb1 := hiW_bd z
  have hb2 := loW_bd z
  have sb := sgnW_bd n
  obtain ⟨H, hH⟩ : ∃ H, H = hiW z := ⟨_, rfl⟩
  obtain ⟨L, hL⟩ : ∃ L, L = loW z := ⟨_, rfl⟩
  obtain ⟨c1, hc1⟩ : ∃ c1, (L + n % 18446744073709551616 + 0) / 18446744073709551616 = c1 := ⟨_, rfl⟩
  rw [← hH] at p2 hb1
  rw [← hL] at p1 p2 hb2
  rw [hc1] at p2
  have hc01 : 0 ≤ c1 ∧ c1 ≤ 1 := by omega
  obtain ⟨l1, hl1⟩ : ∃ l1, l1 = loW (z + n) := ⟨_, rfl⟩
  obtain ⟨h1, hh1⟩ : ∃ h1, h1 = hiW (z + n) := ⟨_, rfl⟩
  rw [← hl1] at p1
  rw [← hh1] at p2
  have A1 := hide (fun w => add64_at L (n % 18446744073709551616) 0 l1 c1 hb2.1 (by omega) (by omega) (by omega) p1 hc1 w)
  have A2 := hide (fun w => add64_at H (sgnW n) c1 h1 _ hb1.1 sb.1 hc01.1 hc01.2 p2 rfl w)
  have A3 := hide (fun w => sgn_any n w hn.1 hn.2)
  have e0 : IntKind.u64.wrap n = n % 18446744073709551616 := uw_mod _
  have HE : Hid (wdV (z + n) = .agg #[.int .u64 h1, .int .u64 l1]) := by show wdV (z + n) = _; rw [hh1, hl1]
  show Calls Tryz.prog 128 #[.agg #[.int .u64 (hiW z), .int .u64 (loW z)], .int .i64 n] w _
  rw [← hH, ← hL]
  obtain ⟨k2, hk2⟩ : ∃ k2, k2 = (H + sgnW n + c1) / 18446744073709551616 := ⟨_, rfl⟩
  rw [← hk2] at A2
  obtain ⟨sg, hsg⟩ : ∃ sg, sg = sgnW n := ⟨_, rfl⟩
  rw [← hsg] at A2 A3
  have HB : Hid (∀ o o2, Below w.heap.size w (((w.alloc o).alloc o2).drew)) := fun o o2 => below_drewN (Below.a2 w o o2) 1
  have c0 : Hid (∀ o2, (((w.alloc (.cells #[.int .u64 H, .int .u64 L] 165)).alloc o2).drew).cell? ⟨w.heap.size, 0, none⟩ = some (.int .u64 H)) := fun o2 => by
    show ((w.alloc _).alloc o2).cell? _ = _
    rw [World.cell?_alloc_lt _ _ _ (by simp)]
    simp
  clear hb1 hb2 sb p1 p2 hc1 hc01 hl1 hh1 hH hL hk2 hsg hn
  rw [← e0] at A1
  clear e0
  go_enter Tryz.func128, Tryz.ntmps128
  go_wp2_with (first | simp only [unhide A1])
  refine wp_region_last (n := 11) (S := fun W' => W'.cell? ⟨w.heap.size, 0, none⟩ = some (.int .u64 H)) (by kernel_rfl) (unhide c0 _) (fun hHeld => ?_)
  refine tkW 0 ?_; refine tkN 1 ?_; refine tkW 2 ?_; refine tkW 4 ?_
  refine wpAnyL_one (i := 3) (by kernel_rfl) rfl (fun KK hK => ?_)
  go_simp
  go_wp2_with (first | (go_at_call 129; refine (unhide A3 _).mono ?_; rintro e w2 ⟨rfl, hw⟩; rw [hw]; clear hw w2))
  refine hK.out _ _ (unhide c0 _) (fun hHeld => ?_)
  clear hK KK
  refine wpAnyL_one (i := 5) (by kernel_rfl) rfl (fun KK hK => ?_)
  go_simp
  go_wp2_with (first | simp only [unhide A2])
  refine hK.out _ _ (unhide c0 _) (fun hHeld => ?_)
  clear hK KK
  refine tkW 6 ?_; refine tkW 7 ?_; refine tkW 8 ?_; refine tkW 9 ?_; refine tkW 10 ?_
  refine wpAnyL_done (by kernel_rfl) ?_
  go_wp2_with fail
  exact bodyPost_ret (v := .agg #[.int .u64 h1, .int .u64 l1]) (by simp [results, Tryz.results128, go_sem]) rfl ⟨by rw [unhide HE], unhide HB _ _⟩
end Go.Proofs.YtbenciieenbmeaaGreatDoor
/- answer: whole 108. -/
namespace Go.Proofs.YtbenciieenbmeaaGreatDoor
open Go Go.Shelf Go.ChangeShapes Go.WideShapes Go.ChangeAt Go.RowKit Go.Maps
set_option linter.unusedVariables false
def whN (z : Int) : Int := wrap64 (loW z)
def whB (z : Int) : Bool := hiW z == sgnW (whN z)
/-- a sum that two words hold -/
def W128 (z : Int) : Prop := -170141183460469231731687303715884105728 ≤ z ∧ z < 170141183460469231731687303715884105728
theorem whB_is {z : Int} (h : W128 z) : whB z = true ↔ I64 z := by
  unfold W128 at h
  unfold whB whN hiW loW sgnW I64 wrap64
  rw [beq_iff_eq]
  obtain ⟨q, hq⟩ : ∃ q, q = z / 18446744073709551616 := ⟨_, rfl⟩
  obtain ⟨r, hr⟩ : ∃ r, r = z % 18446744073709551616 := ⟨_, rfl⟩
  have e : z = 18446744073709551616 * q + r := by omega
  have hr0 : 0 ≤ r ∧ r < 18446744073709551616 := by omega
  have hq0 : -9223372036854775808 ≤ q ∧ q < 9223372036854775808 := by omega
  rw [← hq, ← hr]
  by_cases c : r < 9223372036854775808
  · have e1 : (r + 9223372036854775808) % 18446744073709551616 - 9223372036854775808 = r := by omega
    have e2 : r / 9223372036854775808 % 18446744073709551616 = 0 := by omega
    rw [e1, e2, e]
    constructor
    · intro h1
      have : q = 0 := by omega
      subst this
      omega
    · intro h1
      have : q = 0 := by omega
      subst this
      omega
  · have e1 : (r + 9223372036854775808) % 18446744073709551616 - 9223372036854775808 = r - 18446744073709551616 := by omega
    have e2 : (r - 18446744073709551616) / 9223372036854775808 % 18446744073709551616 = 18446744073709551615 := by omega
    rw [e1, e2, e]
    constructor
    · intro h1
      have : q = -1 := by omega
      subst this
      omega
    · intro h1
      have : q = -1 := by omega
      subst this
      omega
theorem whN_is {z : Int} (h : I64 z) : whN z = z := by
  unfold I64 at h
  unfold whN loW wrap64
  omega
theorem whN_bd (z : Int) : I64 (whN z) := wrap_ok _
set_option maxRecDepth 100000
set_option maxHeartbeats 2000000
theorem whole_any (z : Int) (w : World) : Calls Tryz.prog 108 #[wdV z] w fun e w' => e = .returned (.tuple #[.int .i64 (whN z), .bool (whB z)]) ∧ Below w.heap.size w w' := by
  have hb := whN_bd z
  have A3 := hide (fun w => sgn_any (whN z) w hb.1 hb.2)
  unfold whB
  obtain ⟨H, hH⟩ : ∃ H, H = hiW z := ⟨_, rfl⟩
  obtain ⟨L, hL⟩ : ∃ L, L = loW z := ⟨_, rfl⟩
  show Calls Tryz.prog 108 #[.agg #[.int .u64 (hiW z), .int .u64 (loW z)]] w _
  rw [← hH, ← hL]
  have hn : whN z = wrap64 L := by rw [hL]; rfl
  rw [hn] at A3 ⊢
  obtain ⟨sg, hsg⟩ : ∃ sg, sg = sgnW (wrap64 L) := ⟨_, rfl⟩
  rw [← hsg] at A3 ⊢
  have HB : Hid (∀ o, Below w.heap.size w ((w.alloc o).drew)) := fun o => below_drewN (Below.a1 w o) 1
  have c0 : Hid (((w.alloc (.cells #[.int .u64 H, .int .u64 L] 165)).drew).cell? ⟨w.heap.size, 0, none⟩ = some (.int .u64 H)) := by
    show (w.alloc _).cell? _ = _
    simp
  clear hb hH hL hn hsg
  go_enter Tryz.func108, Tryz.ntmps108
  go_wp2_with fail
  refine wp_region_last (n := 8) (S := fun W' => W'.cell? ⟨w.heap.size, 0, none⟩ = some (.int .u64 H)) (by kernel_rfl) (unhide c0) (fun hHeld => ?_)
  refine tkW 0 ?_; refine tkW 1 ?_; refine tkN 2 ?_; refine tkW 3 ?_
  refine wpAnyL_one (i := 4) (by kernel_rfl) rfl (fun KK hK => ?_)
  go_simp
  go_wp2_with (first | (go_at_call 129; refine (unhide A3 _).mono ?_; rintro e w2 ⟨rfl, hw⟩; rw [hw]; clear hw w2))
  refine hK.out _ _ (unhide c0) (fun hHeld => ?_)
  clear hK KK
  refine tkW 5 ?_; refine tkW 6 ?_; refine tkW 7 ?_
  refine wpAnyL_done (by kernel_rfl) ?_
  go_wp2_with fail
  go_ret2
  exact ⟨rfl, unhide HB _⟩
end Go.Proofs.YtbenciieenbmeaaGreatDoor
/- answer: isEnd 83, cell 84. -/
namespace Go.Proofs.YtbenciieenbmeaaGreatDoor
open Go Go.Shelf Go.ChangeShapes Go.WideShapes Go.ChangeAt Go.RowKit Go.Maps
set_option linter.unusedVariables false
abbrev agV (k o t : Int) : Value := .agg #[.int .i64 k, .int .i64 o, .int .i64 t]
abbrev agO (k o t : Int) : Obj := .cells #[.int .i64 k, .int .i64 o, .int .i64 t] 104
abbrev tlV (z : Int) (e : Cl) : Value := .agg #[.int .u64 (hiW z), .int .u64 (loW z), .int .i64 e.ty, .int .i64 e.num, .string e.tx]
/-- is it the least or the greatest? -/
def isE (k : Int) : Bool := (k == 3) || (k == 4)
set_option maxRecDepth 100000
set_option maxHeartbeats 2000000
theorem isEnd_any (k o t : Int) (w : World) : Calls Tryz.prog 83 #[agV k o t] w fun e w' => e = .returned (.bool (isE k)) ∧ w' = w.alloc (agO k o t) := by
  by_cases h3 : k = 3
  · subst h3
    go_enter Tryz.func83, Tryz.ntmps83
    go_wp2_with fail
    go_ret
    exact ⟨rfl, rfl⟩
  · have e3 := beqF h3
    have e : isE k = (k == 4) := by unfold isE; rw [e3]; rfl
    rw [e]
    clear h3 e
    go_enter Tryz.func83, Tryz.ntmps83
    go_wp2_with fail
    go_ret
    exact ⟨rfl, rfl⟩
/-- what a tally comes to -/
def tlC (z : Int) (e : Cl) (k t : Int) : Cl := if isE k = true then e else fit (whB z) (numC t (whN z))
theorem tlE (z : Int) (e : Cl) (k o t : Int) (h : isE k = true) (w : World) : Calls Tryz.prog 84 #[tlV z e, agV k o t] w fun e' w' => e' = .returned (cV e.ty e.num e.tx) ∧ Below w.heap.size w w' := by
  have HB : Hid (∀ o o2 o3 o4, Below w.heap.size w ((((w.alloc o).alloc o2).alloc o3).alloc o4)) := Below.a4 w
  have d : Hid (∀ w, Calls Tryz.prog 83 #[agV k o t] w fun e w' => e = .returned (.bool true) ∧ w' = w.alloc (agO k o t)) := fun w => by rw [← h]; exact isEnd_any k o t w
  obtain ⟨ty, nu, tx⟩ := e
  obtain ⟨H, hH⟩ : ∃ H, H = hiW z := ⟨_, rfl⟩
  obtain ⟨L, hL⟩ : ∃ L, L = loW z := ⟨_, rfl⟩
  show Calls Tryz.prog 84 #[.agg #[.int .u64 (hiW z), .int .u64 (loW z), .int .i64 ty, .int .i64 nu, .string tx], _] w _
  rw [← hH, ← hL]
  clear h hH hL
  go_enter Tryz.func84, Tryz.ntmps84
  go_wp2_with (first | (go_at_call 83; refine (unhide d _).mono ?_; rintro e w' ⟨rfl, hw⟩; subst hw))
  exact bodyPost_ret (v := cV ty nu tx) (by simp [results, Tryz.results84, go_sem]) rfl ⟨rfl, unhide HB _ _ _ _⟩
section
attribute [local go_sem ↓] stC_is
theorem tlN (z : Int) (e : Cl) (k o t : Int) (h : isE k = false) (w : World) : Calls Tryz.prog 84 #[tlV z e, agV k o t] w fun e' w' => e' = .returned (fit (whB z) (numC t (whN z))).val ∧ Below w.heap.size w w' := by
  have d : Hid (∀ w, Calls Tryz.prog 83 #[agV k o t] w fun e w' => e = .returned (.bool false) ∧ w' = w.alloc (agO k o t)) := fun w => by rw [← h]; exact isEnd_any k o t w
  have d1 := hide (whole_any z)
  have d2 : Hid (∀ w, Calls Tryz.prog 110 #[.int .i64 t, .int .i64 (whN z)] w fun e w' => e = .returned (numC t (whN z)).val ∧ Below w.heap.size w w') := numberOf_any t (whN z)
  have d3 : Hid (∀ w, Calls Tryz.prog 109 #[.bool (whB z), (numC t (whN z)).val] w fun e w' => e = .returned (fit (whB z) (numC t (whN z))).val ∧ Below w.heap.size w w') := fun w => fitting_any _ _ _ _ w
  obtain ⟨ty, nu, tx⟩ := e
  have d1 : Hid (∀ w, Calls Tryz.prog 108 #[.agg #[.int .u64 (hiW z), .int .u64 (loW z)]] w fun e w' => e = .returned (.tuple #[.int .i64 (whN z), .bool (whB z)]) ∧ Below w.heap.size w w') := unhide d1
  show Calls Tryz.prog 84 #[.agg #[.int .u64 (hiW z), .int .u64 (loW z), .int .i64 ty, .int .i64 nu, .string tx], _] w _
  obtain ⟨H, hH⟩ : ∃ H, H = hiW z := ⟨_, rfl⟩
  obtain ⟨L, hL⟩ : ∃ L, L = loW z := ⟨_, rfl⟩
  obtain ⟨wn, hwn⟩ : ∃ x, x = whN z := ⟨_, rfl⟩
  obtain ⟨wb, hwb⟩ : ∃ x, x = whB z := ⟨_, rfl⟩
  rw [← hwn] at d1 d2 d3 ⊢
  rw [← hwb] at d1 d3 ⊢
  rw [← hH, ← hL] at d1 ⊢
  obtain ⟨nc, hnc⟩ : ∃ x, x = numC t wn := ⟨_, rfl⟩
  rw [← hnc] at d2 d3 ⊢
  obtain ⟨fc, hfc⟩ : ∃ x, x = fit wb nc := ⟨_, rfl⟩
  rw [← hfc] at d3 ⊢
  clear h hH hL hwn hwb hnc hfc
  obtain ⟨X, hX⟩ : ∃ X, X = (((w.alloc (.cells #[.int .u64 H, .int .u64 L, .int .i64 ty, .int .i64 nu, .string tx] 167)).alloc (agO k o t)).alloc zc).alloc (agO k o t) := ⟨_, rfl⟩
  have hXs : X.heap.size = w.heap.size + 4 := by rw [hX]; simp
  have hX2 : X.heap[w.heap.size + 2]? = some zc := by rw [hX, Below.heap_alloc _ _ _ (by simp)]; exact blk33 w _ _ _
  have hX1 : X.heap[w.heap.size + 1]? = some (agO k o t) := by rw [hX, Below.heap_alloc _ _ _ (by simp)]; exact blk3 w _ _ _
  have hBX : Below w.heap.size w X := by rw [hX]; exact Below.a4 w _ _ _ _
  have HX := hide hX; have HXs := hide hXs; have HX2 := hide hX2; have HX1 := hide hX1; have HBX := hide hBX
  clear hX hXs hX2 hX1 hBX
  go_enter Tryz.func84, Tryz.ntmps84
  go_wp2_with (first | (go_at_call 83; refine (unhide d _).mono ?_; rintro e w' ⟨rfl, hw⟩; subst hw))
  rw [← unhide HX]
  refine (unhide d1 _).mono ?_
  rintro e w1 ⟨rfl, hb1⟩
  have a2 : w1.cell? ⟨w.heap.size + 1, 2, none⟩ = some (.int .i64 t) := by rw [cellOf ((hb1.block _ (by rw [unhide HXs]; omega)).trans (unhide HX1))]; rfl
  have HB1 := hide hb1
  clear hb1
  go_wp2_with fail
  refine (unhide d2 _).mono ?_
  rintro e w2 ⟨rfl, hb2⟩
  have HB2 := hide ((unhide HB1).trans (hb2.mono (unhide HB1).size))
  clear hb2 a2 HB1
  go_wp2_with fail
  refine (unhide d3 _).mono ?_
  rintro e w3 ⟨rfl, hb3⟩
  have hb := (unhide HB2).trans (hb3.mono (unhide HB2).size)
  clear hb3 HB2
  obtain ⟨Y, hp, y0, y1, y2, hk⟩ := put45 (n := w.heap.size + 2) ((hb.block _ (by rw [unhide HXs]; omega)).trans (unhide HX2)) fc
  have HK := hide (hk w.heap.size w (by omega) ((unhide HBX).trans (hb.mono (by rw [unhide HXs]; omega))))
  clear hb hk
  go_wp2_with fail
  exact bodyPost_ret (v := cV fc.ty fc.num fc.tx) (by simp [results, Tryz.results84, go_sem, y0, y1, y2]) rfl ⟨rfl, unhide HK⟩
end
theorem cell_any (z : Int) (e : Cl) (k o t : Int) (w : World) : Calls Tryz.prog 84 #[tlV z e, agV k o t] w fun e' w' => e' = .returned (tlC z e k t).val ∧ Below w.heap.size w w' := by
  unfold tlC
  cases h : isE k
  · exact tlN z e k o t h w
  · exact tlE z e k o t h w
end Go.Proofs.YtbenciieenbmeaaGreatDoor
/- answer: a tally at its place; tally.take 106 of counts and sums. -/
namespace Go.Proofs.YtbenciieenbmeaaGreatDoor
open Go Go.Shelf Go.ChangeShapes Go.WideShapes Go.ChangeAt Go.RowKit Go.Maps
set_option linter.unusedVariables false
def tlL (z : Int) (e : Cl) : List Value := [.int .u64 (hiW z), .int .u64 (loW z), .int .i64 e.ty, .int .i64 e.num, .string e.tx]
/-- a tally at a place of a block -/
structure TAt (W : World) (g o : Nat) (z : Int) (e : Cl) : Prop where
  blk : ∃ cs : Array Value, W.heap[g]? = some (.cells cs 167 (0, 0)) ∧ o + 5 ≤ cs.size
  r : W.rangeAt g o (tlL z e)
theorem TAt.lt {W : World} {g o : Nat} {z : Int} {e : Cl} (h : TAt W g o z e) : g < W.heap.size := by
  obtain ⟨cs, hcs, _⟩ := h.blk
  exact (Array.getElem?_eq_some_iff.1 hcs).1
theorem TAt.same {W W' : World} {g o : Nat} {z : Int} {e : Cl} (h : TAt W g o z e) (hb : W'.heap[g]? = W.heap[g]?) : TAt W' g o z e :=
  ⟨by rw [hb]; exact h.blk, fun j u hu => by have := h.r j u hu; unfold World.cell? at *; rw [hb]; exact this⟩
/-- nothing old is touched but five cells of one block -/
structure Tch (X Y : World) (g o : Nat) : Prop where
  fr : Fr X Y (fun i => i = g)
  at' : ∀ cs, X.heap[g]? = some (.cells cs 167 (0, 0)) → ∃ cs' : Array Value, Y.heap[g]? = some (.cells cs' 167 (0, 0)) ∧ cs'.size = cs.size ∧ ∀ i, (i < o ∨ o + 5 ≤ i) → cs'[i]? = cs[i]?
theorem Tch.of_below {X Y : World} {g : Nat} (h : Below X.heap.size X Y) (hg : g < X.heap.size) (o : Nat) : Tch X Y g o :=
  ⟨Fr.of_below h _, fun cs hcs => ⟨cs, (h.block _ hg).trans hcs, rfl, fun _ _ => rfl⟩⟩
theorem Tch.trans {X Y Z : World} {g o : Nat} (h : Tch X Y g o) (k : Tch Y Z g o) : Tch X Z g o := by
  refine ⟨h.fr.trans k.fr (fun _ _ e => e), fun cs hcs => ?_⟩
  obtain ⟨c1, e1, s1, a1⟩ := h.at' cs hcs
  obtain ⟨c2, e2, s2, a2⟩ := k.at' c1 e1
  exact ⟨c2, e2, s2.trans s1, fun i hi => (a2 i hi).trans (a1 i hi)⟩
def stW (x y : Value) : Sem Unit := Instr.storeAt 165 x y
theorem stW_is (x y : Value) : Instr.storeAt 165 x y = stW x y := rfl
def ldW (x : Value) : Sem Value := Instr.loadAt 165 x
theorem ldW_is (x : Value) : Instr.loadAt 165 x = ldW x := rfl
theorem szW : (Tryz.prog.info? 165).map (·.size) = some 2 := by kernel_rfl
theorem TAt.ldS {W : World} {g o : Nat} {z : Int} {e : Cl} (h : TAt W g o z e) : (ldW (.pointer (some ⟨g, o, none⟩))).run Tryz.prog W = .ok (wdV z) W :=
  run_loadAt_mid (P := Tryz.prog) W g o 165 [.int .u64 (hiW z), .int .u64 (loW z)] _ (fun j u hu => h.r j u (by
    have : j = 0 ∨ j = 1 := by have := (List.getElem?_eq_some_iff.1 hu).1; simp at this; omega
    rcases this with rfl | rfl <;> exact hu)) Tryz.underlying165 rfl szW
theorem TAt.ldE {W : World} {g o : Nat} {z : Int} {e : Cl} (h : TAt W g o z e) : (ldC (.pointer (some ⟨g, o + 2, none⟩))).run Tryz.prog W = .ok e.val W :=
  run_ldC (fun j u hu => by
    have h3 : j = 0 ∨ j = 1 ∨ j = 2 := by have := (List.getElem?_eq_some_iff.1 hu).1; simp [Cl.vals] at this; omega
    have := h.r (2 + j) u (by rcases h3 with rfl | rfl | rfl <;> exact hu)
    rw [← Nat.add_assoc] at this
    exact this)
theorem TAt.putS {X : World} {g o : Nat} {z : Int} {e : Cl} (h : TAt X g o z e) (z' : Int) :
    ∃ Y, (stW (.pointer (some ⟨g, o, none⟩)) (wdV z')).run Tryz.prog X = .ok () Y ∧ TAt Y g o z' e ∧ Tch X Y g o := by
  obtain ⟨cs, hcs, hsz⟩ := h.blk
  have hs := run_storeAt_mid (P := Tryz.prog) X g o 165 #[.int .u64 (hiW z'), .int .u64 (loW z')] (fun j hj => by
    have hj' : o + j < cs.size := by have : j < 2 := hj; omega
    simp [World.cell?, World.frozen?, hcs, hj']) szW (by simp; exact ⟨rfl, rfl⟩)
  have hy : (X.setCells g o [.int .u64 (hiW z'), .int .u64 (loW z')]).heap[g]? = some (.cells ((cs.setIfInBounds o (.int .u64 (hiW z'))).setIfInBounds (o + 1) (.int .u64 (loW z'))) 167 (0, 0)) := by
    show ((X.setCell ⟨g, o, none⟩ _).setCell ⟨g, o + 1, none⟩ _).heap[g]? = _
    rw [setC (setC hcs)]
  have hF : Fr X (X.setCells g o [.int .u64 (hiW z'), .int .u64 (loW z')]) (fun i => i = g) := ((Fr.refl X (fun i => i = g)).setCell (p := ⟨g, o, none⟩) (.inl rfl) _).setCell (p := ⟨g, o + 1, none⟩) (.inl rfl) _
  refine ⟨_, hs, ⟨⟨_, hy, by simp; omega⟩, fun j u hu => ?_⟩, hF, fun c2 hc2 => ?_⟩
  · rw [cellOf hy]
    have hj : j = 0 ∨ j = 1 ∨ j = 2 ∨ j = 3 ∨ j = 4 := by have := (List.getElem?_eq_some_iff.1 hu).1; simp [tlL] at this; omega
    simp only [Array.getElem?_setIfInBounds, Array.size_setIfInBounds]
    have h2 : 2 ≤ j → cs[o + j]? = some u := fun h2 => by
      have := h.r j u (by rcases hj with rfl | rfl | rfl | rfl | rfl <;> first | omega | exact hu)
      rw [cellOf hcs] at this
      exact this
    rcases hj with rfl | rfl | hj
    · rw [if_neg (by omega), if_pos (by omega), if_pos (by omega)]; exact hu
    · rw [if_pos (by omega), if_pos (by omega)]; exact hu
    · rw [if_neg (by omega), if_neg (by omega)]; exact h2 (by omega)
  · rw [hcs] at hc2
    cases hc2
    exact ⟨_, hy, by simp, fun i hi => by simp only [Array.getElem?_setIfInBounds, Array.size_setIfInBounds]; rw [if_neg (by omega), if_neg (by omega)]⟩
theorem TAt.putE {X : World} {g o : Nat} {z : Int} {e : Cl} (h : TAt X g o z e) (c : Cl) :
    ∃ Y, (stC (.pointer (some ⟨g, o + 2, none⟩)) c.val).run Tryz.prog X = .ok () Y ∧ TAt Y g o z c ∧ Tch X Y g o := by
  obtain ⟨cs, hcs, hsz⟩ := h.blk
  have hs := run_storeAt_mid (P := Tryz.prog) X g (o + 2) 45 #[.int .i64 c.ty, .int .i64 c.num, .string c.tx] (fun j hj => by
    have hj' : o + 2 + j < cs.size := by have : j < 3 := hj; omega
    simp [World.cell?, World.frozen?, hcs, hj']) szC (by simp; exact ⟨rfl, rfl, rfl⟩)
  have hy : (X.setCells g (o + 2) [.int .i64 c.ty, .int .i64 c.num, .string c.tx]).heap[g]? = some (.cells (((cs.setIfInBounds (o + 2) (.int .i64 c.ty)).setIfInBounds (o + 2 + 1) (.int .i64 c.num)).setIfInBounds (o + 2 + 1 + 1) (.string c.tx)) 167 (0, 0)) := by
    show (((X.setCell ⟨g, o + 2, none⟩ _).setCell ⟨g, o + 2 + 1, none⟩ _).setCell ⟨g, o + 2 + 1 + 1, none⟩ _).heap[g]? = _
    rw [setC (setC (setC hcs))]
  have hF : Fr X (X.setCells g (o + 2) [.int .i64 c.ty, .int .i64 c.num, .string c.tx]) (fun i => i = g) := (((Fr.refl X (fun i => i = g)).setCell (p := ⟨g, o + 2, none⟩) (.inl rfl) _).setCell (p := ⟨g, o + 2 + 1, none⟩) (.inl rfl) _).setCell (p := ⟨g, o + 2 + 1 + 1, none⟩) (.inl rfl) _
  refine ⟨_, hs, ⟨⟨_, hy, by simp; omega⟩, fun j u hu => ?_⟩, hF, fun c2 hc2 => ?_⟩
  · rw [cellOf hy]
    have hj : j = 0 ∨ j = 1 ∨ j = 2 ∨ j = 3 ∨ j = 4 := by have := (List.getElem?_eq_some_iff.1 hu).1; simp [tlL] at this; omega
    simp only [Array.getElem?_setIfInBounds, Array.size_setIfInBounds]
    have h2 : j < 2 → cs[o + j]? = some u := fun h2 => by
      have := h.r j u (by rcases hj with rfl | rfl | rfl | rfl | rfl <;> first | omega | exact hu)
      rw [cellOf hcs] at this
      exact this
    rcases hj with hj | hj | rfl | rfl | rfl
    · rw [if_neg (by omega), if_neg (by omega), if_neg (by omega)]; exact h2 (by omega)
    · rw [if_neg (by omega), if_neg (by omega), if_neg (by omega)]; exact h2 (by omega)
    · rw [if_neg (by omega), if_neg (by omega), if_pos (by omega), if_pos (by omega)]; exact hu
    · rw [if_neg (by omega), if_pos (by omega), if_pos (by omega)]; exact hu
    · rw [if_pos (by omega), if_pos (by omega)]; exact hu
  · rw [hcs] at hc2
    cases hc2
    exact ⟨_, hy, by simp, fun i hi => by simp only [Array.getElem?_setIfInBounds, Array.size_setIfInBounds]; rw [if_neg (by omega), if_neg (by omega), if_neg (by omega)]⟩
section
attribute [local go_sem ↓] stW_is ldW_is
set_option maxRecDepth 100000
set_option maxHeartbeats 4000000
theorem take1 {w : World} {g o : Nat} {z : Int} {e : Cl} (h : TAt w g o z e) (t n : Int) (s : ByteArray) (hn : I64 n) : Calls Tryz.prog 106 #[.pointer (some ⟨g, o, none⟩), .int .i64 1, cV t n s] w fun e' w' => e' = .returned (.tuple #[]) ∧ TAt w' g o (z + n) e ∧ Tch w w' g o := by
  have d := hide (plus_any z n hn)
  obtain ⟨X, hX⟩ : ∃ X, X = w.alloc (cO t n s) := ⟨_, rfl⟩
  have hBX : Below w.heap.size w X := by rw [hX]; exact Below.a1 w _
  have hXs : X.heap.size = w.heap.size + 1 := by rw [hX]; simp
  have hx0 : X.heap[w.heap.size]? = some (cO t n s) := by rw [hX]; exact heap_new _ _
  have hTX : TAt X g o z e := h.same (hBX.block _ h.lt)
  have hgl := h.lt
  have HS : Hid (∀ W', Below X.heap.size X W' → W'.cell? ⟨w.heap.size, 1, none⟩ = some (.int .i64 n) ∧ (ldW (.pointer (some ⟨g, o, none⟩))).run Tryz.prog W' = .ok (wdV z) W' ∧ TAt W' g o z e) := fun W' hB => by
    have ht : TAt W' g o z e := hTX.same (hB.block _ (by omega))
    exact ⟨by rw [hB.cell (p := ⟨w.heap.size, 1, none⟩) (by show w.heap.size < _; omega), cellOf hx0]; rfl, ht.ldS, ht⟩
  have HX := hide hX; have HBX := hide hBX; have HG := hide hgl
  have HXs := hide hXs
  obtain ⟨wz, hwz⟩ : ∃ v, v = wdV z := ⟨_, rfl⟩
  obtain ⟨wz', hwz'⟩ : ∃ v, v = wdV (z + n) := ⟨_, rfl⟩
  rw [← hwz] at d HS
  rw [← hwz'] at d
  have HP : Hid (∀ W', TAt W' g o z e → ∃ Y, (stW (.pointer (some ⟨g, o, none⟩)) wz').run Tryz.prog W' = .ok () Y ∧ TAt Y g o (z + n) e ∧ Tch W' Y g o) := fun W' h => by rw [hwz']; exact h.putS (z + n)
  clear hX hBX hXs hx0 hTX hgl hwz hwz' h hn
  go_enter Tryz.func106, Tryz.ntmps106
  go_wp2_with fail
  rw [← unhide HX]
  have hD : Below X.heap.size X X.drew := below_drewN (Below.refl _ X) 1
  have S0 := unhide HS _ hD
  refine wp_region_last (n := 10) (S := fun W' => W'.cell? ⟨w.heap.size, 1, none⟩ = some (.int .i64 n) ∧ (ldW (.pointer (some ⟨g, o, none⟩))).run Tryz.prog W' = .ok wz W') (by kernel_rfl) ⟨S0.1, S0.2.1⟩ (fun hHeld => ?_)
  refine tkW 0 ?_; refine tkW 1 ?_; refine tkW 5 ?_; refine tkS 6 ?_
  refine wpAnyL_one (i := 2) (by kernel_rfl) rfl (fun KK hK => ?_)
  go_simp
  refine hK.out _ _ (by exact ⟨S0.1, S0.2.1⟩) (fun hHeld => ?_)
  clear hK KK
  refine tkW 3 ?_; refine tkS 4 ?_
  refine wpAnyL_one (i := 7) (by kernel_rfl) rfl (fun KK hK => ?_)
  go_simp
  go_wp2_with fail
  refine (unhide d _).mono ?_
  rintro e' w1 ⟨rfl, hb⟩
  have hb2 : Below X.heap.size X w1 := hD.trans (hb.mono (by simp))
  have S1 := unhide HS _ hb2
  obtain ⟨Y, hp, hY, hT⟩ := unhide HP _ S1.2.2
  have HPY := hide hp
  have HYT := hide hY
  have HTc : Hid (Tch w Y g o) := ((Tch.of_below (unhide HBX) (unhide HG) o).trans (Tch.of_below hb2 (by rw [unhide HXs]; have := unhide HG; omega) o)).trans hT
  have S2 : Hid (Y.cell? ⟨w.heap.size, 1, none⟩ = some (.int .i64 n)) := by
    have hg := unhide HG
    show Y.cell? _ = _
    rw [hT.fr.cell (p := ⟨w.heap.size, 1, none⟩) (by show w.heap.size < _; have := hb2.size; rw [unhide HXs] at this; omega) (by show ¬ w.heap.size = g; omega)]
    exact S1.1
  clear hb hp hY hT
  go_wp2_with fail
  refine hK.out _ _ (by exact ⟨S1.1, S1.2.1⟩) (fun hHeld => ?_)
  clear hK KK
  refine wpAnyL_one (i := 8) (by kernel_rfl) rfl (fun KK hK => ?_)
  go_simp
  refine hK.out _ _ (by exact ⟨S1.1, S1.2.1⟩) (fun hHeld => ?_)
  clear hK KK
  refine wpAnyL_one (i := 9) (by kernel_rfl) rfl (fun KK hK => ?_)
  go_simp
  refine hK.out _ _ (by exact ⟨S1.1, S1.2.1⟩) (fun hHeld => ?_)
  clear hK KK
  refine wpAnyL_past (i := 10) (by kernel_rfl) rfl (by kernel_rfl) (fun KK hK => ?_)
  have hp := unhide HPY
  go_simp
  refine hK.out _ _ ?_
  clear hK KK
  refine wpAnyL_done (by kernel_rfl) ?_
  go_wp2_with fail
  refine bodyPost_end (v := .tuple #[]) (by simp [results, Tryz.results106]) rfl ?_
  exact ⟨rfl, unhide HYT, unhide HTc⟩
theorem take2 {w : World} {g o : Nat} {z : Int} {e : Cl} (h : TAt w g o z e) (t n : Int) (s : ByteArray) (hn : I64 n) : Calls Tryz.prog 106 #[.pointer (some ⟨g, o, none⟩), .int .i64 2, cV t n s] w fun e' w' => e' = .returned (.tuple #[]) ∧ TAt w' g o (z + n) e ∧ Tch w w' g o := by
  have d := hide (plus_any z n hn)
  obtain ⟨X, hX⟩ : ∃ X, X = w.alloc (cO t n s) := ⟨_, rfl⟩
  have hBX : Below w.heap.size w X := by rw [hX]; exact Below.a1 w _
  have hXs : X.heap.size = w.heap.size + 1 := by rw [hX]; simp
  have hx0 : X.heap[w.heap.size]? = some (cO t n s) := by rw [hX]; exact heap_new _ _
  have hTX : TAt X g o z e := h.same (hBX.block _ h.lt)
  have hgl := h.lt
  have HS : Hid (∀ W', Below X.heap.size X W' → W'.cell? ⟨w.heap.size, 1, none⟩ = some (.int .i64 n) ∧ (ldW (.pointer (some ⟨g, o, none⟩))).run Tryz.prog W' = .ok (wdV z) W' ∧ TAt W' g o z e) := fun W' hB => by
    have ht : TAt W' g o z e := hTX.same (hB.block _ (by omega))
    exact ⟨by rw [hB.cell (p := ⟨w.heap.size, 1, none⟩) (by show w.heap.size < _; omega), cellOf hx0]; rfl, ht.ldS, ht⟩
  have HX := hide hX; have HBX := hide hBX; have HG := hide hgl
  have HXs := hide hXs
  obtain ⟨wz, hwz⟩ : ∃ v, v = wdV z := ⟨_, rfl⟩
  obtain ⟨wz', hwz'⟩ : ∃ v, v = wdV (z + n) := ⟨_, rfl⟩
  rw [← hwz] at d HS
  rw [← hwz'] at d
  have HP : Hid (∀ W', TAt W' g o z e → ∃ Y, (stW (.pointer (some ⟨g, o, none⟩)) wz').run Tryz.prog W' = .ok () Y ∧ TAt Y g o (z + n) e ∧ Tch W' Y g o) := fun W' h => by rw [hwz']; exact h.putS (z + n)
  clear hX hBX hXs hx0 hTX hgl hwz hwz' h hn
  go_enter Tryz.func106, Tryz.ntmps106
  go_wp2_with fail
  rw [← unhide HX]
  have hD : Below X.heap.size X X.drew := below_drewN (Below.refl _ X) 1
  have S0 := unhide HS _ hD
  refine wp_region_last (n := 10) (S := fun W' => W'.cell? ⟨w.heap.size, 1, none⟩ = some (.int .i64 n) ∧ (ldW (.pointer (some ⟨g, o, none⟩))).run Tryz.prog W' = .ok wz W') (by kernel_rfl) ⟨S0.1, S0.2.1⟩ (fun hHeld => ?_)
  refine tkW 0 ?_; refine tkW 1 ?_; refine tkW 5 ?_; refine tkS 6 ?_
  refine wpAnyL_one (i := 2) (by kernel_rfl) rfl (fun KK hK => ?_)
  go_simp
  refine hK.out _ _ (by exact ⟨S0.1, S0.2.1⟩) (fun hHeld => ?_)
  clear hK KK
  refine tkW 3 ?_; refine tkS 4 ?_
  refine wpAnyL_one (i := 7) (by kernel_rfl) rfl (fun KK hK => ?_)
  go_simp
  go_wp2_with fail
  refine (unhide d _).mono ?_
  rintro e' w1 ⟨rfl, hb⟩
  have hb2 : Below X.heap.size X w1 := hD.trans (hb.mono (by simp))
  have S1 := unhide HS _ hb2
  obtain ⟨Y, hp, hY, hT⟩ := unhide HP _ S1.2.2
  have HPY := hide hp
  have HYT := hide hY
  have HTc : Hid (Tch w Y g o) := ((Tch.of_below (unhide HBX) (unhide HG) o).trans (Tch.of_below hb2 (by rw [unhide HXs]; have := unhide HG; omega) o)).trans hT
  have S2 : Hid (Y.cell? ⟨w.heap.size, 1, none⟩ = some (.int .i64 n)) := by
    have hg := unhide HG
    show Y.cell? _ = _
    rw [hT.fr.cell (p := ⟨w.heap.size, 1, none⟩) (by show w.heap.size < _; have := hb2.size; rw [unhide HXs] at this; omega) (by show ¬ w.heap.size = g; omega)]
    exact S1.1
  clear hb hp hY hT
  go_wp2_with fail
  refine hK.out _ _ (by exact ⟨S1.1, S1.2.1⟩) (fun hHeld => ?_)
  clear hK KK
  refine wpAnyL_one (i := 8) (by kernel_rfl) rfl (fun KK hK => ?_)
  go_simp
  refine hK.out _ _ (by exact ⟨S1.1, S1.2.1⟩) (fun hHeld => ?_)
  clear hK KK
  refine wpAnyL_one (i := 9) (by kernel_rfl) rfl (fun KK hK => ?_)
  go_simp
  refine hK.out _ _ (by exact ⟨S1.1, S1.2.1⟩) (fun hHeld => ?_)
  clear hK KK
  refine wpAnyL_past (i := 10) (by kernel_rfl) rfl (by kernel_rfl) (fun KK hK => ?_)
  have hp := unhide HPY
  go_simp
  refine hK.out _ _ ?_
  clear hK KK
  refine wpAnyL_done (by kernel_rfl) ?_
  go_wp2_with fail
  refine bodyPost_end (v := .tuple #[]) (by simp [results, Tryz.results106]) rfl ?_
  exact ⟨rfl, unhide HYT, unhide HTc⟩
end
end Go.Proofs.YtbenciieenbmeaaGreatDoor
