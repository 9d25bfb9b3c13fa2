import Derived.Test.YtmgnlgobkkfjhaaGreatDoorW09
import Derived.Laws.StructEq
import Derived.ChangeKeysEq
/- The keeper's rows: marks, room, kept. -/
namespace Go.Proofs.YtmgnlgobkkfjhaaGreatDoor.Kg
open Go Go.RowKit Go.Shelf Go.ChangeShapes Go.WideShapes Go.ChangeAt Go.Maps
set_option linter.unusedVariables false
set_option linter.unusedSimpArgs false
set_option maxRecDepth 100000
set_option maxHeartbeats 8000000
def pks {α : Type} (f : Nat → α) (j : Nat) : List α := (List.range j).map f
theorem pks_succ {α : Type} (f : Nat → α) (j : Nat) : pks f (j + 1) = pks f j ++ [f j] := by simp [pks, List.range_succ]
theorem pks_len {α : Type} (f : Nat → α) (j : Nat) : (pks f j).length = j := by simp [pks]
theorem pks_get {α : Type} (f : Nat → α) {j k : Nat} (h : k < j) : (pks f j)[k]? = some (f k) := by simp [pks, h]
theorem pmarked_get {α : Type} {X : List α} {f : Nat → α} {n j : Nat} (hX : X.length = n) (hj : j < 64) (h : n + j < (X ++ pks f 64).length) : (X ++ pks f 64)[n + j]'h = f j := by
  have e : (X ++ pks f 64)[n + j]? = some (f j) := by rw [List.getElem?_append_right (by omega), hX, show n + j - n = j by omega]; exact pks_get f hj
  rw [List.getElem?_eq_getElem h] at e
  exact Option.some.inj e
/-- the marks behind rows -/
def mkP (k : Nat) : Ro := ⟨-700000001, -(k : Int) - 1, 0, 0, mkS 700000 k, ⟨#[]⟩, 0, ⟨#[]⟩, ⟨#[]⟩⟩
def Ro.val (r : Ro) : Value := .agg #[.int .i64 r.i0, .int .i64 r.i1, .int .i64 r.day, .int .i64 r.i3, .string r.s4, .string r.acc, .int .i64 r.amt, .string r.s7, .string r.s8]
def ldP (x : Value) : Sem Value := Instr.loadAt 74 x
theorem ldP_is (x : Value) : Instr.loadAt 74 x = ldP x := rfl
theorem sizP : (Tryz.prog.info? 74).map (·.size) = some 9 := by kernel_rfl
theorem run_ldP {w : World} {b o : Nat} {x : Ro} (h : w.rangeAt b o x.vals) : (ldP (.pointer (some ⟨b, o, none⟩))).run Tryz.prog w = .ok (Ro.val x) w :=
  run_loadAt_mid (P := Tryz.prog) w b o 74 x.vals _ h Tryz.underlying74 rfl sizP
def stP (x y : Value) : Sem Unit := Instr.storeAt 74 x y
theorem stP_is (x y : Value) : Instr.storeAt 74 x y = stP x y := rfl
theorem run_stP {w : World} {b : Nat} {cs : Array Value} (h : w.heap[b]? = some (.cells cs 74 (0, 0))) (hs : cs.size = 9) {v0 v1 v2 v3 v4 v5 v6 v7 v8 : Value} (ho : ∀ u ∈ [v0, v1, v2, v3, v4, v5, v6, v7, v8], u.oneCell' = true) : (stP (.pointer (some ⟨b, 0, none⟩)) (.agg #[v0, v1, v2, v3, v4, v5, v6, v7, v8])).run Tryz.prog w = .ok () (w.setCells b 0 [v0, v1, v2, v3, v4, v5, v6, v7, v8]) :=
  run_storeAt_mid (P := Tryz.prog) w b 0 74 #[v0, v1, v2, v3, v4, v5, v6, v7, v8] (fun j hj => by
    have hj' : j < cs.size := by rw [hs]; exact hj
    simp [World.cell?, World.frozen?, h, hj']) sizP (by simpa using ho)
theorem heap_setP {w : World} {b : Nat} {x0 x1 x2 x3 x4 x5 x6 x7 x8 v0 v1 v2 v3 v4 v5 v6 v7 v8 : Value} {t : TypeId} (h : w.heap[b]? = some (.cells #[x0, x1, x2, x3, x4, x5, x6, x7, x8] t (0, 0))) : (w.setCells b 0 [v0, v1, v2, v3, v4, v5, v6, v7, v8]).heap[b]? = some (.cells #[v0, v1, v2, v3, v4, v5, v6, v7, v8] t (0, 0)) := by
  unfold World.setCells World.setCells World.setCells World.setCells World.setCells World.setCells World.setCells World.setCells World.setCells World.setCells
  rw [set_heap (set_heap (set_heap (set_heap (set_heap (set_heap (set_heap (set_heap (set_heap h))))))))]
  rfl
theorem below_setCs {B b : Nat} (hb : B ≤ b) (l : List Value) : ∀ (o : Nat) (a w : World), Below B a w → Below B a (w.setCells b o l) := by
  induction l with
  | nil => exact fun o a w h => h
  | cons v l ih => exact fun o a w h => ih (o + 1) a _ (h.setCell hb v)
attribute [local go_sem ↓] ldP_is stP_is
theorem mark95 (k : Nat) (hk : k ≤ 64) (w : World) (hP : Pw w) : Calls Tryz.prog 86 #[.int .i64 700000, .int .i64 (k : Int)] w fun e w' => e = .returned (Ro.val (mkP k)) ∧ Below w.heap.size w w' := by
  obtain ⟨w1, hw1⟩ : ∃ w1, w1 = w.alloc (.cells #[.int .i64 0, .int .i64 0, .int .i64 0, .int .i64 0, .string ⟨#[]⟩, .string ⟨#[]⟩, .int .i64 0, .string ⟨#[]⟩, .string ⟨#[]⟩] 74) := ⟨_, rfl⟩
  have b1 : Below w.heap.size w w1 := by rw [hw1]; exact bal (Below.refl _ _) _
  have z1 : w1.heap.size = w.heap.size + 1 := by rw [hw1]; simp
  have d := hide (text_any 700000 k (by omega) (by omega) w1 (hP.below b1))
  have hR1 : w1.heap[w.heap.size]? = some (.cells #[.int .i64 0, .int .i64 0, .int .i64 0, .int .i64 0, .string ⟨#[]⟩, .string ⟨#[]⟩, .int .i64 0, .string ⟨#[]⟩, .string ⟨#[]⟩] 74 (0, 0)) := by rw [hw1]; exact heap_new _ _
  have HR := hide hR1; have B1 := hide b1; have HZ1 := hide z1
  have s1 : IntKind.i64.wrap (-(k : Int)) = -(k : Int) := by rw [IntKind.wrap_i64]; omega
  have s2 : IntKind.i64.wrap (-(k : Int) - 1) = -(k : Int) - 1 := by rw [IntKind.wrap_i64]; omega
  obtain ⟨tx, htx⟩ : ∃ t, t = mkS 700000 k := ⟨_, rfl⟩
  rw [← htx] at d
  have HTX := hide htx
  clear hP b1 hR1 htx z1
  go_enter Tryz.func86, Tryz.ntmps86
  go_upto_region 1 with fail
  rw [← hw1]
  clear hw1
  go_wp2_with fail
  refine (unhide d).mono ?_
  rintro e w2 ⟨rfl, hg⟩
  have hb2 := hg.below
  have hR2 := (hb2.block w.heap.size (by have := unhide HZ1; omega)).trans (unhide HR)
  have B2 : Hid (Below w.heap.size w w2) := (unhide B1).trans (hb2.mono (unhide B1).size)
  have st := run_stP hR2 rfl (v0 := .int .i64 (-700000001)) (v1 := .int .i64 (-(k : Int) - 1)) (v2 := .int .i64 0) (v3 := .int .i64 0) (v4 := .string tx) (v5 := .string ⟨#[]⟩) (v6 := .int .i64 0) (v7 := .string ⟨#[]⟩) (v8 := .string ⟨#[]⟩) (fun u hu => by simp at hu; rcases hu with rfl | rfl | rfl | rfl | rfl | rfl | rfl <;> rfl)
  have hy := heap_setP (v0 := .int .i64 (-700000001)) (v1 := .int .i64 (-(k : Int) - 1)) (v2 := .int .i64 0) (v3 := .int .i64 0) (v4 := .string tx) (v5 := .string ⟨#[]⟩) (v6 := .int .i64 0) (v7 := .string ⟨#[]⟩) (v8 := .string ⟨#[]⟩) hR2
  obtain ⟨Y, hY⟩ : ∃ Y, Y = w2.setCells w.heap.size 0 [.int .i64 (-700000001), .int .i64 (-(k : Int) - 1), .int .i64 0, .int .i64 0, .string tx, .string ⟨#[]⟩, .int .i64 0, .string ⟨#[]⟩, .string ⟨#[]⟩] := ⟨_, rfl⟩
  rw [← hY] at st hy
  have y0 : Y.cell? ⟨w.heap.size, 0, none⟩ = some (.int .i64 (-700000001)) := by rw [cell_at hy]; rfl
  have y1 : Y.cell? ⟨w.heap.size, 1, none⟩ = some (.int .i64 (-(k : Int) - 1)) := by rw [cell_at hy]; rfl
  have y2 : Y.cell? ⟨w.heap.size, 2, none⟩ = some (.int .i64 0) := by rw [cell_at hy]; rfl
  have y3 : Y.cell? ⟨w.heap.size, 3, none⟩ = some (.int .i64 0) := by rw [cell_at hy]; rfl
  have y4 : Y.cell? ⟨w.heap.size, 4, none⟩ = some (.string tx) := by rw [cell_at hy]; rfl
  have y5 : Y.cell? ⟨w.heap.size, 5, none⟩ = some (.string ⟨#[]⟩) := by rw [cell_at hy]; rfl
  have y6 : Y.cell? ⟨w.heap.size, 6, none⟩ = some (.int .i64 0) := by rw [cell_at hy]; rfl
  have y7 : Y.cell? ⟨w.heap.size, 7, none⟩ = some (.string ⟨#[]⟩) := by rw [cell_at hy]; rfl
  have y8 : Y.cell? ⟨w.heap.size, 8, none⟩ = some (.string ⟨#[]⟩) := by rw [cell_at hy]; rfl
  have HBY : Hid (Below w.heap.size w Y) := by rw [hY]; exact below_setCs (Nat.le_refl _) _ _ _ _ (unhide B2)
  clear hy hY hR2 hg hb2
  go_wp2_with fail
  refine bodyPost_ret (v := .agg #[.int .i64 (-700000001), .int .i64 (-(k : Int) - 1), .int .i64 0, .int .i64 0, .string tx, .string ⟨#[]⟩, .int .i64 0, .string ⟨#[]⟩, .string ⟨#[]⟩]) (by simp [results, Tryz.results86, go_sem, *]) rfl ⟨by rw [unhide HTX]; rfl, unhide HBY⟩
theorem eq74P (x : Ro) (w : World) : (Op.equalIn 10000 74 (Ro.val x) (Ro.val x)).run Tryz.prog w = .ok true w := by
  have sd : Tryz.prog.underlying 74 = some (.struct (Tryz.prog.fieldsOf 74)) := by kernel_rfl
  have sh : Tryz.prog.stoodInHeld 74 = false := by kernel_rfl
  unfold Ro.val
  rw [run_equalIn_agg w 9999 74 _ _ sd sh]
  have fl : (Tryz.prog.fieldsOf 74).toList.map (fun f => (f.type, f.offset, f.name == "_")) = [(3, 0, false), (3, 1, false), (3, 2, false), (3, 3, false), (9, 4, false), (9, 5, false), (2, 6, false), (9, 7, false), (9, 8, false)] := by kernel_rfl
  obtain ⟨f0, f1, f2, f3, f4, f5, f6, f7, f8, hf⟩ : ∃ f0 f1 f2 f3 f4 f5 f6 f7 f8, (Tryz.prog.fieldsOf 74).toList = [f0, f1, f2, f3, f4, f5, f6, f7, f8] := by
    have h := congrArg List.length fl
    rw [List.length_map] at h
    match hq : (Tryz.prog.fieldsOf 74).toList, h with
    | [f0, f1, f2, f3, f4, f5, f6, f7, f8], _ => exact ⟨f0, f1, f2, f3, f4, f5, f6, f7, f8, rfl⟩
  have h := fl
  rw [hf] at h ⊢
  simp at h
  simp [Op.eqFields, go_sem, h, Tryz.underlying2, Tryz.underlying3, Tryz.underlying9]
theorem same96 (x : Ro) (w : World) : Calls Tryz.prog 87 #[Ro.val x, Ro.val x] w fun e w' => e = .returned (.bool true) ∧ Below w.heap.size w w' := by
  have eg : Tryz.prog.eqGuardType Tryz.prog.depth 74 = false := by kernel_rfl
  have he := eq74P x
  unfold Ro.val at he ⊢
  have b2 : ∀ o o', Below w.heap.size w ((w.alloc o).alloc o') := fun o o' => bal (bal (Below.refl _ _) _) _
  have HB2 := hide b2
  have l1 : ∀ (w : World) (b : Nat), w.heap[b]? = some (.cells #[.int .i64 x.i0, .int .i64 x.i1, .int .i64 x.day, .int .i64 x.i3, .string x.s4, .string x.acc, .int .i64 x.amt, .string x.s7, .string x.s8] 74 (0, 0)) → (ldP (.pointer (some ⟨b, 0, none⟩))).run Tryz.prog w = .ok (.agg #[.int .i64 x.i0, .int .i64 x.i1, .int .i64 x.day, .int .i64 x.i3, .string x.s4, .string x.acc, .int .i64 x.amt, .string x.s7, .string x.s8]) w := fun w b h => run_ldP (x := x) (fun j u hu => by rw [Nat.zero_add, cell_at h]; simpa [Ro.vals] using hu)
  obtain ⟨X, hX⟩ : ∃ X, X = (w.alloc (.cells #[.int .i64 x.i0, .int .i64 x.i1, .int .i64 x.day, .int .i64 x.i3, .string x.s4, .string x.acc, .int .i64 x.amt, .string x.s7, .string x.s8] 74)).alloc (.cells #[.int .i64 x.i0, .int .i64 x.i1, .int .i64 x.day, .int .i64 x.i3, .string x.s4, .string x.acc, .int .i64 x.amt, .string x.s7, .string x.s8] 74) := ⟨_, rfl⟩
  have a0 : X.heap[w.heap.size]? = some (.cells #[.int .i64 x.i0, .int .i64 x.i1, .int .i64 x.day, .int .i64 x.i3, .string x.s4, .string x.acc, .int .i64 x.amt, .string x.s7, .string x.s8] 74 (0, 0)) := by rw [hX, Below.heap_alloc _ _ _ (by simp)]; exact heap_new _ _
  have a1 : X.heap[w.heap.size + 1]? = some (.cells #[.int .i64 x.i0, .int .i64 x.i1, .int .i64 x.day, .int .i64 x.i3, .string x.s4, .string x.acc, .int .i64 x.amt, .string x.s7, .string x.s8] 74 (0, 0)) := by
    rw [hX]
    have := heap_new (w.alloc (.cells #[.int .i64 x.i0, .int .i64 x.i1, .int .i64 x.day, .int .i64 x.i3, .string x.s4, .string x.acc, .int .i64 x.amt, .string x.s7, .string x.s8] 74)) (.cells #[.int .i64 x.i0, .int .i64 x.i1, .int .i64 x.day, .int .i64 x.i3, .string x.s4, .string x.acc, .int .i64 x.amt, .string x.s7, .string x.s8] 74)
    rw [World.size_alloc] at this
    exact this
  have m0 := l1 X _ a0
  have m1 := l1 X _ a1
  have hq := he X
  have HX : Hid (Below w.heap.size w X) := by rw [hX]; exact b2 _ _
  clear a0 a1 l1 he b2
  go_enter Tryz.func87, Tryz.ntmps87
  go_upto_region 1 with fail
  rw [← hX]
  clear hX
  go_wp2_with fail
  go_ret
  exact ⟨rfl, unhide HX⟩
theorem bs66 (w : World) : (Instr.buildSlice 66 0 #[]).run Tryz.prog w = .ok (.slice (some ⟨w.heap.size, 0, none⟩) 0 0) (w.alloc (.cells #[] 74)) := by kernel_rfl
theorem Ml.copy {α : Type} {K : Kd α} (hK : KdOK K) (X : World) (M : List α) (pu : Option Addr) (cu : Nat) (hcu : pu = none → cu = 0) (hu : Lies K X pu M) (ty : TypeId) (hl : M.length ≤ 1099511627776) :
    ∃ p c w', (Builtin.append_ #[K.t, K.t] ty #[.slice (some ⟨X.heap.size, 0, none⟩) 0 0, .slice pu M.length cu]).run Tryz.prog (X.alloc (.cells #[] K.e)) = .ok (.slice p M.length c) w' ∧ Ml K X w' (.slice p M.length c) M := by
  have h0 : (X.alloc (.cells #[] K.e)).ownsRow X.heap.size K.e K.s (.slice (some ⟨X.heap.size, 0, none⟩) 0 0) 0 (K.flat []) := World.ownsRow_made X #[] 0 (Nat.le_refl _) (Nat.zero_le _) (by simp)
  have b0 : Below X.heap.size X (X.alloc (.cells #[] K.e)) := bal (Below.refl _ _) _
  obtain ⟨p8, c8, w8, r8, o8, b8, _, _⟩ := run_app hK ty (W := X.alloc (.cells #[] K.e)) (M := M) (B := X.heap.size) (L := []) (n := 0) h0 (by simp) pu cu hcu (hu.below b0) (by omega)
  rw [Nat.zero_add] at r8 o8
  exact ⟨p8, c8, w8, r8, o8, b0.trans b8⟩
theorem room22 {W : World} (hP : Pw W) {X : List Ro} {p : Option Addr} {c : Nat} (hc : p = none → c = 0) (hL : Lies kR W p X) (hn : X.length ≤ 1000000000) : Calls Tryz.prog 22 #[.slice p X.length c] W fun e w' => ∃ p' c', e = .returned (.slice p' (X.length + 64) c') ∧ Ml kR W w' (.slice p' (X.length + 64) c') (X ++ pks mkP 64) := by
  obtain ⟨n, hX⟩ : ∃ n, n = X.length := ⟨_, rfl⟩
  obtain ⟨p1, c1, w1, r1, R1⟩ := Ml.copy kR_ok W X p c hc hL 66 (by omega)
  have HS : Hid (Ml kR W w1 (.slice p1 n c1) (X ++ pks mkP 0)) := by rw [hX]; show Ml _ _ _ _ (X ++ []); rw [List.append_nil]; exact R1
  rw [← hX] at r1 hn ⊢
  have HR1 : Hid ((Builtin.append_ #[66, 66] 66 #[.slice (some ⟨W.heap.size, 0, none⟩) 0 0, .slice p n c]).run Tryz.prog (W.alloc (.cells #[] 74)) = .ok (.slice p1 n c1) w1) := r1
  have g7 := bs66
  have HP := hide hP; have HX := hide hX
  clear r1 R1 hL hc hX hP
  go_enter Tryz.func22, Tryz.ntmps22
  go_wp2_with (at_builtin; refine wpList_append_run rfl _ _ 66 rfl _ _ _ _ rfl rfl (unhide HR1) ?_)
  go_loopw [3, 4] (fun v i wr => ∃ j : Nat, j ≤ 64 ∧ i = .int .i64 (j : Int) ∧ (∃ p' c', v = .slice p' (n + j) c' ∧ Hid (Ml kR W wr (.slice p' (n + j) c') (X ++ pks mkP j)))) (fun _ i _ => 64 - (intOf i).toNat)
  case atStart => exact ⟨0, by omega, rfl, _, _, rfl, unhide HS⟩
  case round =>
    obtain ⟨j, hj, rfl, p7, c7, rfl, HA⟩ := hrel
    by_cases hlt : j < 64
    · have hI : (j : Int) < 64 := by omega
      have hmk := hide (mark95 j (by omega) wr ((unhide HP).below (unhide HA).bel))
      obtain ⟨y, hy⟩ : ∃ y, y = mkP j := ⟨_, rfl⟩
      rw [← hy] at hmk
      have HY := hide hy
      unfold Ro.val at hmk
      clear hy
      go_wp2_with fail
      refine (unhide hmk).mono ?_
      rintro e w2 ⟨rfl, hb⟩
      have hll : (X ++ pks mkP j).length = n + j := by rw [List.length_append, pks_len, unhide HX]
      obtain ⟨p8, c8, w8, r8, o8⟩ := ((unhide HA).below hb).more kR_ok (by rw [hll]; omega) y #[.int .i64 y.i0, .int .i64 y.i1, .int .i64 y.day, .int .i64 y.i3, .string y.s4, .string y.acc, .int .i64 y.amt, .string y.s7, .string y.s8] rfl 66 74
      rw [hll] at r8 o8
      rw [unhide HY, List.append_assoc, ← pks_succ] at o8
      have HR8 : Hid ((Builtin.append_ #[66, 66] 66 #[.slice p7 (n + j) c7, .slice (some ⟨w2.heap.size, 0, none⟩) 1 1]).run Tryz.prog (w2.alloc (.cells #[.int .i64 y.i0, .int .i64 y.i1, .int .i64 y.day, .int .i64 y.i3, .string y.s4, .string y.acc, .int .i64 y.amt, .string y.s7, .string y.s8] 74)) = .ok (.slice p8 (n + j + 1) c8) w8) := r8
      have HO8 := hide o8
      clear hb r8 o8 hll
      go_wp2_with (at_builtin; refine wpList_append_run rfl _ _ 66 rfl _ _ _ _ rfl rfl (unhide HR8) ?_)
      exact ⟨⟨j + 1, by omega, by go_num, _, _, rfl, unhide HO8⟩, by simp [intOf]; omega⟩
    · have hj64 : j = 64 := by omega
      subst hj64
      go_wp2_with fail
      go_ret
      exact ⟨p7, c7, rfl, unhide HA⟩
end Go.Proofs.YtmgnlgobkkfjhaaGreatDoor.Kg
/- The keeper's rows: kept (23). -/
namespace Go.Proofs.YtmgnlgobkkfjhaaGreatDoor.Kg
open Go Go.RowKit Go.Shelf Go.ChangeShapes Go.WideShapes Go.ChangeAt Go.Maps
set_option linter.unusedVariables false
set_option linter.unusedSimpArgs false
set_option maxRecDepth 100000
set_option maxHeartbeats 8000000
attribute [local go_sem ↓] ldP_is
theorem kept23 {W : World} (hP : Pw W) {X : List Ro} {n : Nat} {pp pg : Option Addr} {cc c : Nat} (hX : X.length = n) (hn : n ≤ 4611686018427387904) (hL : Lies kR W pp X) (hG : Lies kR W pg (X ++ pks mkP 64)) : Calls Tryz.prog 23 #[.slice pg (n + 64) c, .slice pp n cc] W fun e w' => e = .returned (.bool true) ∧ Below W.heap.size W w' := by
  have HL := hide hL; have HG := hide hG; have HX := hide hX; have HP := hide hP
  clear hL hG hX hP
  go_enter Tryz.func23, Tryz.ntmps23
  go_wp2_with fail
  go_loopw [5] (fun i wr => ∃ (k : Nat) (K : Int), k ≤ n + 64 ∧ i = .int .i64 K ∧ K = (k : Int) ∧ Hid (Below W.heap.size W wr)) (fun i _ => ((n : Int) + 64 - intOf i).toNat)
  case atStart => exact ⟨0, 0, by omega, rfl, rfl, Below.refl _ _⟩
  case round =>
    obtain ⟨k, K, hk, rfl, hK, HB⟩ := hrel
    have hb := unhide HB
    have HK := hide hK
    have hK0 : 0 ≤ K := by omega
    have hKt : K.toNat = k := by omega
    by_cases hlt : k < n + 64
    · have hI : K < (n : Int) + 64 := by omega
      obtain ⟨b1, o1, e1, l1, r1⟩ := ((unhide HG).below hb).2 k (by rw [List.length_append, unhide HX, pks_len]; exact hlt)
      subst e1
      by_cases hkn : k < n
      · obtain ⟨b2, o2, e2, l2, r2⟩ := ((unhide HL).below hb).2 k (by rw [unhide HX]; exact hkn)
        subst e2
        rw [List.getElem_append_left (by rw [unhide HX]; exact hkn)] at r1
        obtain ⟨vx, hvx⟩ : ∃ vx : Value, vx = Ro.val (X[k]'(by rw [unhide HX]; exact hkn)) := ⟨_, rfl⟩
        have x0 : ∀ P : Bel wr, (ldP (.pointer (some ⟨b1, o1 + k * 9, none⟩))).run Tryz.prog P.W = .ok vx P.W := fun P => by rw [hvx]; exact run_ldP (fun u v hv => (P.h.cell (p := ⟨b1, o1 + k * 9 + u, none⟩) (by assumption)).trans (r1 u v hv))
        have y0 : ∀ P : Bel wr, (ldP (.pointer (some ⟨b2, o2 + k * 9, none⟩))).run Tryz.prog P.W = .ok vx P.W := fun P => by rw [hvx]; exact run_ldP (fun u v hv => (P.h.cell (p := ⟨b2, o2 + k * 9 + u, none⟩) (by assumption)).trans (r2 u v hv))
        have HSM : Hid (∀ P : Bel wr, Calls Tryz.prog 87 #[vx, vx] P.W fun e w'' => e = .returned (.bool true) ∧ ∃ q : Bel wr, w'' = q.W) := fun P => by
          rw [hvx]
          exact belCalls P (same96 _ P.W)
        subst hK
        have hI1 : (k : Int) < (n : Int) := by omega
        have hI2 : ¬ (n : Int) ≤ (k : Int) := by omega
        have hN2 : ¬ n ≤ k := by omega
        have hD2 : decide (n ≤ k) = false := decide_eq_false hN2
        clear r1 r2 hvx hb hk HK hKt l1 l2
        go_wp2_with fail
        refine wp_region_quiet_below (by kernel_rfl) (by kernel_rfl) ?_
        repeat (go_big_quiet_step (first | (go_at_call 87; refine unhide HSM _)))
        refine wpQuiet_nil ?_
        rintro _ ⟨P, rfl⟩
        clear x0 y0
        go_wp2_with fail
        exact ⟨⟨k + 1, (k : Int) + 1, by omega, by go_num, by omega, (unhide HB).trans (P.h.mono (unhide HB).size)⟩, by simp [intOf]; omega⟩
      · obtain ⟨j, hjk⟩ : ∃ j, k = n + j := ⟨k - n, by omega⟩
        have ej : ∀ h, (X ++ pks mkP 64)[k]'h = mkP j := fun h => by
          subst hjk
          exact pmarked_get (unhide HX) (by omega) h
        rw [ej] at r1
        obtain ⟨vx, hvx⟩ : ∃ vx : Value, vx = Ro.val (mkP j) := ⟨_, rfl⟩
        have x0 : ∀ P : Bel wr, (ldP (.pointer (some ⟨b1, o1 + k * 9, none⟩))).run Tryz.prog P.W = .ok vx P.W := fun P => by rw [hvx]; exact run_ldP (fun u v hv => (P.h.cell (p := ⟨b1, o1 + k * 9 + u, none⟩) (by assumption)).trans (r1 u v hv))
        have hI1 : ¬ K < (n : Int) := by omega
        have hI2 : (n : Int) ≤ K := by omega
        have hI3 : K - (n : Int) = (j : Int) := by omega
        have hwj : IntKind.i64.wrap (j : Int) = (j : Int) := by rw [IntKind.wrap_i64]; omega
        have hwK : IntKind.i64.wrap (K - (n : Int)) = (j : Int) := by rw [hI3, hwj]
        have hD1 : decide (K < (n : Int)) = false := decide_eq_false hI1
        have hD2 : decide ((n : Int) ≤ K) = true := decide_eq_true hI2
        have hpw := (unhide HP).below hb
        have HMK : Hid (∀ P : Bel wr, Calls Tryz.prog 86 #[.int .i64 700000, .int .i64 (j : Int)] P.W fun e w'' => e = .returned vx ∧ ∃ q : Bel wr, w'' = q.W) := fun P => by
          rw [hvx]
          exact belCalls P (mark95 j (by omega) P.W (hpw.below P.h))
        have HSM : Hid (∀ P : Bel wr, Calls Tryz.prog 87 #[vx, vx] P.W fun e w'' => e = .returned (.bool true) ∧ ∃ q : Bel wr, w'' = q.W) := fun P => by
          rw [hvx]
          exact belCalls P (same96 _ P.W)
        clear r1 hvx hb hK hlt hk hkn hjk ej l1 hpw
        go_wp2_with fail
        refine wp_region_quiet_below (by kernel_rfl) (by kernel_rfl) ?_
        repeat (go_big_quiet_step (first | (go_at_call 87; refine unhide HSM _) | (go_at_call 86; refine unhide HMK _)))
        refine wpQuiet_nil ?_
        rintro _ ⟨P, rfl⟩
        clear x0
        go_wp2_with fail
        exact ⟨⟨k + 1, K + 1, by have := unhide HK; omega, by go_num, by have := unhide HK; omega, (unhide HB).trans (P.h.mono (unhide HB).size)⟩, by have := unhide HK; simp [intOf]; omega⟩
    · have hI : ¬ K < (n : Int) + 64 := by omega
      clear hb hK
      go_wp2_with fail
      go_ret
      exact ⟨rfl, unhide HB⟩
end Go.Proofs.YtmgnlgobkkfjhaaGreatDoor.Kg
