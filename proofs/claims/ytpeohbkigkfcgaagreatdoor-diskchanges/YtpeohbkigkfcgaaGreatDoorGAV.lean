import Derived.Test.YtpeohbkigkfcgaaGreatDoorGAU
import Derived.Test.YtpeohbkigkfcgaaGreatDoorGAG
import Derived.Test.YtpeohbkigkfcgaaGreatDoorGAT
import Derived.Test.YtpeohbkigkfcgaaGreatDoorGAN
import Derived.Test.YtpeohbkigkfcgaaGreatDoorGAD
set_option linter.unusedVariables false
set_option linter.unusedSimpArgs false
set_option maxRecDepth 100000
set_option maxHeartbeats 16000000
namespace Go.Proofs.YtpeohbkigkfcgaaGreatDoor.Kp
open Go Go.ChangeShapes Go.WideShapes Go.ChangeAt Go.RowKit Go.Sort
attribute [local go_sem] setCell_drewN alloc_drewN
theorem wpList_append_zero {w : World} {ops : Array Oper} {rest : List Oper} {o : Oper} {a : Act} {Q : Exit -> Act -> World -> Prop} (hgd : o.guard = none) (s x : Operand)
  (ho : o.op = .call { callee := .builtin .append, args := #[s, x], argTypes := #[55, 55] })
  (base : Nat) (i : TypeInfo) (hi : Tryz.prog.info? 5 = some i) (v : Value) (n : Nat) (xs : List Value) (hs : a.eval s = v) (hown : w.ownsRow base 5 1 v n xs) (px : Option Addr) (cx : Nat) (hpx : px = none -> cx = 0) (hx : a.eval x = .slice px 0 cx)
  (h : wpList Tryz.prog ops Q rest (a.put o.dst v) w) : wpList Tryz.prog ops Q (o :: rest) a w := by
 refine wpList_plain hgd fun K hK => ?_
 have hrun := run_append_zero w base o.type i hi v n xs hown px cx hpx
 unfold Oper.wp
 simp [execOp, ho, resolve, invoke, builtin, hs, hx, hrun, Result.andThen]
 exact hK _ _ h
theorem room_zero (px : Option Addr) (cx : Nat) (hpx : px = none -> cx = 0) (f : Nat -> Nat) (w : World) : Calls Tryz.prog 99 #[.slice px 0 cx] w fun e w' => RoomOut f 0 w e w' := by
 obtain ⟨i0, hi, hz0, hz1, hz2⟩ := info_parts info5
 have HI := hide hi; have HZ0 := hide hz0; have HZ1 := hide hz1; have HZ2 := hide hz2
 clear hi hz0 hz1 hz2
 go_enter Tryz.func99, Tryz.ntmps99
 have hnl := hide (World.ownsRow_lit (base := w.heap.size) (e := 5) (size := 1) w #[] 0 (Nat.le_refl _) (by unfold maxLen; omega) rfl)
 go_wp2_with (at_builtin; refine wpList_append_zero rfl _ _ rfl w.heap.size i0 (uh HI) _ _ _ rfl (uh hnl) px cx hpx rfl ?_)
 go_loopw [3, 4] (fun v i wr => ∃ j : Nat, j <= 64 /\ i = .int .i64 (j : Int) /\ wr.ownsRow w.heap.size 5 1 v (0 + j) (bcells (cat f 0 (patN 700000)) (0 + j)) /\ Below w.heap.size w wr) (fun _ i _ => 64 - (intOf i).toNat)
 case atStart =>
  exact ⟨0, by omega, rfl, uh hnl, bal (Below.refl _ _) _⟩
 case round =>
  obtain ⟨j, hj, rfl, hown, hbel⟩ := hrel
  have OWN := hide hown
  have BEL := hide hbel
  have hsz := hbel.size
  clear hown hbel
  by_cases hlt : j < 64
  ·have hI : (j : Int) < 64 := by omega
   go_wp2_with fail
   refine (mark_any 700000 j (by omega) (by omega) wr).mono ?_
   rintro e w2 ⟨rfl, hw⟩
   rw [hw]
   clear hw
   go_wp2_with (at_builtin; refine wpList_append_own _ rfl _ _ 55 rfl w.heap.size 5 i0 (.int .u8 0) 1 1 Tryz.underlying55 (uh HI) (uh HZ0) (uh HZ1) (uh HZ2) rfl (by decide) _ _ _ rfl ((uh OWN).alloc _) ⟨wr.heap.size, 0, none⟩ 1 1 [.int .u8 (patN 700000 j : Int)] rfl rfl (cell_one_new _ _ _) (one_one _) (by unfold maxLen; omega) (by omega) (by simp; omega) ?_; intro v1 w2 hown1 hgrow1 _; have B2 := hide (Below.grown (bal (uh BEL) _) hgrow1 (by simp; omega) (fun k hk => ((uh OWN).lt k hk).1)); have O2 := hide hown1; clear hown1 hgrow1)
   refine ⟨⟨j + 1, by omega, by go_num, ?_, uh B2⟩, by simp [intOf]; omega⟩
   have h := uh O2
   rw [<- cat_ge (f := f) (g := patN 700000) (n := 0) j, <- bcells_succ] at h
   exact h
  ·have hj64 : j = 64 := by omega
   subst hj64
   go_wp2_with fail
   go_ret
   obtain ⟨g, c, hv⟩ := own_open (uh OWN) (by omega)
   subst hv
   exact ⟨g, c, rfl, uh OWN, uh BEL⟩
theorem kept_zero (px : Option Addr) (cx : Nat) (f : Nat -> Nat) (g c : Nat) (w : World) (hg : Hid (∀ k, k < 0 + 64 -> w.cell? ⟨g, k, none⟩ = some (.int .u8 (cat f 0 (patN 700000) k : Int)))) :
  Calls Tryz.prog 95 #[.slice (some ⟨g, 0, none⟩) (0 + 64) c, .slice px 0 cx] w fun e w' => e = .returned (.bool true) /\ ∃ m, w' = w.drewN m := by
 go_enter Tryz.func95, Tryz.ntmps95
 go_wp2_with fail
 go_loopw [5] (fun i wr => ∃ (k m : Nat), k <= 64 /\ i = .int .i64 (k : Int) /\ wr = w.drewN m) (fun i _ => 64 - (intOf i).toNat)
 case atStart => exact ⟨0, 0, by omega, rfl, rfl⟩
 case round =>
  obtain ⟨k, m, hk, rfl, hw⟩ := hrel
  have HW := hide hw
  have hI0 : (0 : Int) <= (k : Int) := by omega
  by_cases hlt : k < 64
  ·have h1 : wr.cell? ⟨g, k, none⟩ = some (.int .u8 (patN 700000 k : Int)) := by
    have e := cat_ge (f := f) (g := patN 700000) (n := 0) k
    rw [Nat.zero_add] at e
    rw [hw, <- e]
    exact uh hg k (by omega)
   have hI : (k : Int) < 64 := by omega
   obtain ⟨K, hK⟩ : ∃ K : Int, (k : Int) = K := ⟨_, rfl⟩
   have hKn : K.toNat = k := by omega
   have hI1 : ¬ K < 0 := by omega
   have hI2 : (0 : Int) <= K := by omega
   have hD1 : decide (K < 0) = false := decide_eq_false hI1
   have hD2 : decide (0 <= K) = true := decide_eq_true hI2
   rw [hK] at hI hI0 ⊢
   have HK := hide hK
   have hmk := hide (show ∀ W, Calls Tryz.prog 198 #[.int .i64 700000, .int .i64 K] W fun e w' => e = .returned (.int .u8 (patN 700000 k : Int)) /\ w' = W from fun W => by rw [<- hK]; exact mark_any 700000 k (by omega) (by omega) W)
   clear hK hw hg hlt hk
   go_wp2_with fail
   go_quiet (first | (go_at_call 197; refine Calls.quiet_of_same (same8 _ _)) | (go_at_call 198; refine Calls.quiet_of_same (uh hmk _)))
   go_wp2_with fail
   go_roundw
   case rel => exact ⟨k + 1, m + nq, by have := uh HK; omega, by have := uh HK; go_num, by rw [uh HW]; exact drew_two _ _ _⟩
   case measure => have := uh HK; simp [intOf]; omega
  ·have hkn : k = 64 := by omega
   subst hkn
   clear hw
   go_wp2_with fail
   go_ret
   exact ⟨rfl, m, uh HW⟩
theorem lies_at {w : World} {pu : Option Addr} {cu : Nat} {b2 : List UInt8} (h : BytesAt w (.slice pu b2.length cu) b2) : BLies (fun j => (b2[j]?.getD 0).toNat) (.slice pu b2.length cu) b2.length w := by
 rcases h with ⟨h1, h2⟩ | ⟨b, off, c, h1, h2⟩
 ·subst h2
  exact .inl ⟨rfl, h1⟩
 ·injection h1 with h1 _ h3
  subst h1 h3
  have hc : ∀ k, k < b2.length -> w.cell? ⟨b, off + k, none⟩ = some (.int .u8 (((b2[k]?.getD 0).toNat : Nat) : Int)) := fun k hk => h2 k _ (by rw [bcs_cells]; exact bcells_get _ _ _ hk)
  exact .inr ⟨b, off, cu, rfl, fun h0 => World.block_lt_of_cell? w _ (hc 0 h0), hc⟩
theorem room_in {w : World} {pu : Option Addr} {cu : Nat} {b2 : List UInt8} (hu : BytesIn w (.slice pu b2.length cu) b2) (hl : b2.length <= 140737488351232) : Calls Tryz.prog 99 #[.slice pu b2.length cu] w fun e w' => RoomOut (fun j => (b2[j]?.getD 0).toNat) b2.length w e w' := by
 by_cases e : b2 = []
 ·subst e
  refine room_zero pu cu (fun e => ?_) _ w
  rcases hu with ⟨h1, _⟩ | ⟨a, c, h1, _⟩
  ·injection h1
  ·injection h1 with h1 _ _; rw [e] at h1; cases h1
 ·exact room_any hl (lies_at (hu.at e))
theorem kept_in {w : World} {pu : Option Addr} {cu : Nat} {b2 : List UInt8} (hu : BytesIn w (.slice pu b2.length cu) b2) (hl : b2.length <= 140737488351232) (g c : Nat) (hg : ∀ k, k < b2.length + 64 -> w.cell? ⟨g, k, none⟩ = some (.int .u8 (cat (fun j => (b2[j]?.getD 0).toNat) b2.length (patN 700000) k : Int))) :
  Calls Tryz.prog 95 #[.slice (some ⟨g, 0, none⟩) (b2.length + 64) c, .slice pu b2.length cu] w fun e w' => e = .returned (.bool true) /\ ∃ m, w' = w.drewN m := by
 by_cases e : b2 = []
 ·subst e
  exact kept_zero pu cu _ g c w hg
 ·exact kept_any hl (lies_at (hu.at e)) g c hg
end Go.Proofs.YtpeohbkigkfcgaaGreatDoor.Kp
namespace Go.Proofs.YtpeohbkigkfcgaaGreatDoor.Ki
open Go Go.ChangeShapes Go.WideShapes Go.ChangeAt Go.RowKit Go.Sort
attribute [local go_sem] setCell_drewN alloc_drewN
theorem run_append_zero (w : World) (base : Nat) (ty : TypeId) (i : TypeInfo) (hi : Tryz.prog.info? 3 = some i) (v : Value) (n : Nat) (xs : List Value) (hown : w.ownsRow base 3 1 v n xs) (px : Option Addr) (cx : Nat) (hx : px = none -> cx = 0) :
  (Builtin.append_ #[56, 56] ty #[v, .slice px 0 cx]).run Tryz.prog w = .ok v w := by
 have ht := Tryz.underlying56
 cases px with
 | none =>
  rw [hx rfl]
  exact run_append_owned_none (P := Tryz.prog) (w := w) base 56 ty 3 i 1 ht hi v n xs hown
 | some a =>
  rcases hown.2 with ⟨rfl, rfl⟩ | ⟨g, cap, cur, rfl, _, _, hnc, _⟩
  ·simp [Builtin.append_, run_underlying ht, sizeOf, typeInfo, hi, Builtin.lenOf, Builtin.firstCells, loadCells, loadCellsFrom]
  ·simp [Builtin.append_, run_underlying ht, sizeOf, typeInfo, hi, Builtin.lenOf, Builtin.firstCells, loadCells, loadCellsFrom, hnc, storeCells]
theorem wpList_append_zero {w : World} {ops : Array Oper} {rest : List Oper} {o : Oper} {a : Act} {Q : Exit -> Act -> World -> Prop} (hgd : o.guard = none) (s x : Operand)
  (ho : o.op = .call { callee := .builtin .append, args := #[s, x], argTypes := #[56, 56] })
  (base : Nat) (i : TypeInfo) (hi : Tryz.prog.info? 3 = some i) (v : Value) (n : Nat) (xs : List Value) (hs : a.eval s = v) (hown : w.ownsRow base 3 1 v n xs) (px : Option Addr) (cx : Nat) (hpx : px = none -> cx = 0) (hx : a.eval x = .slice px 0 cx)
  (h : wpList Tryz.prog ops Q rest (a.put o.dst v) w) : wpList Tryz.prog ops Q (o :: rest) a w := by
 refine wpList_plain hgd fun K hK => ?_
 have hrun := run_append_zero w base o.type i hi v n xs hown px cx hpx
 unfold Oper.wp
 simp [execOp, ho, resolve, invoke, builtin, hs, hx, hrun, Result.andThen]
 exact hK _ _ h
theorem room_zero (px : Option Addr) (cx : Nat) (hpx : px = none -> cx = 0) (f : Nat -> Int) (w : World) : Calls Tryz.prog 108 #[.slice px 0 cx] w fun e w' => RoomOut f 0 w e w' := by
 obtain ⟨i0, hi, hz0, hz1, hz2⟩ := info_parts info3
 have HI := hide hi; have HZ0 := hide hz0; have HZ1 := hide hz1; have HZ2 := hide hz2
 clear hi hz0 hz1 hz2
 go_enter Tryz.func108, Tryz.ntmps108
 have hnl := hide (World.ownsRow_lit (base := w.heap.size) (e := 3) (size := 1) w #[] 0 (Nat.le_refl _) (by unfold maxLen; omega) rfl)
 go_wp2_with (at_builtin; refine wpList_append_zero rfl _ _ rfl w.heap.size i0 (uh HI) _ _ _ rfl (uh hnl) px cx hpx rfl ?_)
 go_loopw [3, 4] (fun v i wr => ∃ j : Nat, j <= 64 /\ i = .int .i64 (j : Int) /\ wr.ownsRow w.heap.size 3 1 v (0 + j) (icells (cat f 0 mI) (0 + j)) /\ Below w.heap.size w wr) (fun _ i _ => 64 - (intOf i).toNat)
 case atStart =>
  exact ⟨0, by omega, rfl, uh hnl, bal (Below.refl _ _) _⟩
 case round =>
  obtain ⟨j, hj, rfl, hown, hbel⟩ := hrel
  have OWN := hide hown
  have BEL := hide hbel
  have hsz := hbel.size
  clear hown hbel
  by_cases hlt : j < 64
  ·have hI : (j : Int) < 64 := by omega
   go_wp2_with fail
   refine (mark_any j (by omega) wr).mono ?_
   rintro e w2 ⟨rfl, hw⟩
   rw [hw]
   clear hw
   go_wp2_with (at_builtin; refine wpList_append_own _ rfl _ _ 56 rfl w.heap.size 3 i0 (.int .i64 0) 1 8 Tryz.underlying56 (uh HI) (uh HZ0) (uh HZ1) (uh HZ2) rfl (by decide) _ _ _ rfl ((uh OWN).alloc _) ⟨wr.heap.size, 0, none⟩ 1 1 [.int .i64 (mI j)] rfl rfl (cell_one_new _ _ _) (one_one _) (by unfold maxLen; omega) (by omega) (by simp; omega) ?_; intro v1 w2 hown1 hgrow1 _; have B2 := hide (Below.grown (bal (uh BEL) _) hgrow1 (by simp; omega) (fun k hk => ((uh OWN).lt k hk).1)); have O2 := hide hown1; clear hown1 hgrow1)
   refine ⟨⟨j + 1, by omega, by go_num, ?_, uh B2⟩, by simp [intOf]; omega⟩
   have h := uh O2
   rw [<- cat_ge (f := f) (g := mI) (n := 0) j, <- icells_succ] at h
   exact h
  ·have hj64 : j = 64 := by omega
   subst hj64
   go_wp2_with fail
   go_ret
   obtain ⟨g, c, hv⟩ := own_open (uh OWN) (by omega)
   subst hv
   exact ⟨g, c, rfl, uh OWN, uh BEL⟩
theorem kept_zero (px : Option Addr) (cx : Nat) (f : Nat -> Int) (g c : Nat) (w : World) (hg : Hid (∀ k, k < 0 + 64 -> w.cell? ⟨g, k, none⟩ = some (.int .i64 (cat f 0 mI k)))) :
  Calls Tryz.prog 110 #[.slice (some ⟨g, 0, none⟩) (0 + 64) c, .slice px 0 cx] w fun e w' => e = .returned (.bool true) /\ ∃ m, w' = w.drewN m := by
 go_enter Tryz.func110, Tryz.ntmps110
 go_wp2_with fail
 go_loopw [5] (fun i wr => ∃ (k m : Nat), k <= 64 /\ i = .int .i64 (k : Int) /\ wr = w.drewN m) (fun i _ => 64 - (intOf i).toNat)
 case atStart => exact ⟨0, 0, by omega, rfl, rfl⟩
 case round =>
  obtain ⟨k, m, hk, rfl, hw⟩ := hrel
  have HW := hide hw
  have hI0 : (0 : Int) <= (k : Int) := by omega
  by_cases hlt : k < 64
  ·have h1 : wr.cell? ⟨g, k, none⟩ = some (.int .i64 (mI k)) := by
    have e := cat_ge (f := f) (g := mI) (n := 0) k
    rw [Nat.zero_add] at e
    rw [hw, <- e]
    exact uh hg k (by omega)
   have hI : (k : Int) < 64 := by omega
   obtain ⟨K, hK⟩ : ∃ K : Int, (k : Int) = K := ⟨_, rfl⟩
   have hKn : K.toNat = k := by omega
   have hI1 : ¬ K < 0 := by omega
   have hI2 : (0 : Int) <= K := by omega
   have hD1 : decide (K < 0) = false := decide_eq_false hI1
   have hD2 : decide (0 <= K) = true := decide_eq_true hI2
   rw [hK] at hI hI0 ⊢
   have HK := hide hK
   have hmk := hide (show ∀ W, Calls Tryz.prog 212 #[.int .i64 700000, .int .i64 K] W fun e w' => e = .returned (.int .i64 (mI k)) /\ w' = W from fun W => by rw [<- hK]; exact mark_any k (by omega) W)
   clear hK hw hg hlt hk
   go_wp2_with fail
   go_quiet (first | (go_at_call 214; refine Calls.quiet_of_same (same8 _ _)) | (go_at_call 212; refine Calls.quiet_of_same (uh hmk _)))
   go_wp2_with fail
   go_roundw
   case rel => exact ⟨k + 1, m + nq, by have := uh HK; omega, by have := uh HK; go_num, by rw [uh HW]; exact drew_two _ _ _⟩
   case measure => have := uh HK; simp [intOf]; omega
  ·have hkn : k = 64 := by omega
   subst hkn
   clear hw
   go_wp2_with fail
   go_ret
   exact ⟨rfl, m, uh HW⟩
theorem lies_at {w : World} {pk : Option Addr} {ck : Nat} {ks : List Int} (h : KsAt w (.slice pk ks.length ck) ks) : ILies (fun j => ks[j]?.getD 0) (.slice pk ks.length ck) ks.length w := by
 rcases h with ⟨h1, h2⟩ | ⟨b, off, c, h1, h2⟩
 ·subst h2
  exact .inl ⟨rfl, h1⟩
 ·injection h1 with h1 _ h3
  subst h1 h3
  have hc : ∀ k, k < ks.length -> w.cell? ⟨b, off + k, none⟩ = some (.int .i64 (ks[k]?.getD 0)) := fun k hk => h2 k _ (by simp [hk])
  exact .inr ⟨b, off, ck, rfl, fun h0 => World.block_lt_of_cell? w _ (hc 0 h0), hc⟩
theorem room_in {w : World} {pk : Option Addr} {ck : Nat} {ks : List Int} (hn : pk = none -> ck = 0) (hu : ks ≠ [] -> KsAt w (.slice pk ks.length ck) ks) (hl : ks.length <= 17592186043904) : Calls Tryz.prog 108 #[.slice pk ks.length ck] w fun e w' => RoomOut (fun j => ks[j]?.getD 0) ks.length w e w' := by
 by_cases e : ks = []
 ·subst e
  exact room_zero pk ck hn _ w
 ·exact room_any hl (lies_at (hu e))
theorem kept_in {w : World} {pk : Option Addr} {ck : Nat} {ks : List Int} (hu : ks ≠ [] -> KsAt w (.slice pk ks.length ck) ks) (hl : ks.length <= 17592186043904) (g c : Nat) (hg : ∀ k, k < ks.length + 64 -> w.cell? ⟨g, k, none⟩ = some (.int .i64 (cat (fun j => ks[j]?.getD 0) ks.length mI k))) :
  Calls Tryz.prog 110 #[.slice (some ⟨g, 0, none⟩) (ks.length + 64) c, .slice pk ks.length ck] w fun e w' => e = .returned (.bool true) /\ ∃ m, w' = w.drewN m := by
 by_cases e : ks = []
 ·subst e
  exact kept_zero pk ck _ g c w hg
 ·exact kept_any hl (lies_at (hu e)) g c hg
end Go.Proofs.YtpeohbkigkfcgaaGreatDoor.Ki
namespace Go.Proofs.YtpeohbkigkfcgaaGreatDoor.Kf
open Go Go.ChangeShapes Go.WideShapes Go.ChangeAt Go.RowKit Go.Sort
open Go.Proofs.YtpeohbkigkfcgaaGreatDoor.Kt (Pw mkS text_any Grn id_any)
attribute [local go_sem] setCell_drewN alloc_drewN
theorem kept_zero (px : Option Addr) (cx : Nat) (g c : Nat) (w : World) (hP : Pw w) (hgl : g < w.heap.size) (hg : ∀ k, k < 64 -> ∀ c, c < 3 -> w.cell? ⟨g, k * 3 + c, none⟩ = (mkF 700000 k).cells[c]?) :
  Calls Tryz.prog 96 #[.slice (some ⟨g, 0, none⟩) 64 c, .slice px 0 cx] w fun e w' => e = .returned (.bool true) /\ Below w.heap.size w w' := by
 have HP := hide hP
 have HG := hide hg
 clear hP hg
 go_enter Tryz.func96, Tryz.ntmps96
 go_wp2_with fail
 go_loopw [5] (fun i wr => ∃ (k : Nat) (K : Int), k <= 64 /\ i = .int .i64 K /\ K = (k : Int) /\ Below w.heap.size w wr) (fun i _ => (64 - intOf i).toNat)
 case atStart => exact ⟨0, 0, by omega, rfl, rfl, Below.refl _ _⟩
 case round =>
  obtain ⟨k, K, hk, rfl, hK, hb⟩ := hrel
  have HB := hide hb
  have HK := hide hK
  have hKt : K.toNat = k := by omega
  have hgr : g < wr.heap.size := Nat.lt_of_lt_of_le hgl hb.size
  by_cases hlt : k < 64
  ·have hI : K < 64 := by omega
   have e := fun c hc' => (World.cell?_of_block (a := ⟨g, k * 3 + c, none⟩) (hb.block g hgl)).trans (uh HG k hlt c hc')
   have x0 : ∀ P : Bel wr, P.W.cell? ⟨g, k * 3, none⟩ = some (.string (mkS 700000 k)) := fun P => keep1 P.h hgr (e 0 (by omega))
   have x1 : ∀ P : Bel wr, P.W.cell? ⟨g, k * 3 + 1, none⟩ = some (.slice none 0 0) := fun P => keep1 P.h hgr (e 1 (by omega))
   have x2 : ∀ P : Bel wr, P.W.cell? ⟨g, k * 3 + 2, none⟩ = some (.int .i64 (-(k : Int) - 1)) := fun P => keep1 P.h hgr (e 2 (by omega))
   have hI1 : ¬ K < 0 := by omega
   have hI2 : (0 : Int) <= K := by omega
   have hwK : IntKind.i64.wrap K = (k : Int) := by rw [IntKind.wrap_i64]; omega
   have hD1 : decide (K < 0) = false := decide_eq_false hI1
   have hD2 : decide (0 <= K) = true := decide_eq_true hI2
   have HMK : Hid (∀ P : Bel wr, Calls Tryz.prog 200 #[.int .i64 700000, .int .i64 K] P.W fun e w'' => e = .returned (.agg #[.string (mkS 700000 k), .slice none 0 0, .int .i64 (-(k : Int) - 1)]) /\ ∃ q : Bel wr, w'' = q.W) := fun P => by
    rw [hK]
    exact (mark_any 700000 k (by omega) (by omega) P.W (((uh HP).below hb).below P.h)).mono (fun e w' ⟨h1, h2⟩ => ⟨h1, ⟨w', P.h.trans (h2.mono P.h.size)⟩, rfl⟩)
   have HSM : Hid (∀ P : Bel wr, Calls Tryz.prog 199 #[.agg #[.string (mkS 700000 k), .slice none 0 0, .int .i64 (-(k : Int) - 1)], .agg #[.string (mkS 700000 k), .slice none 0 0, .int .i64 (-(k : Int) - 1)]] P.W fun e w'' => e = .returned (.bool true) /\ ∃ q : Bel wr, w'' = q.W) := fun P =>
    (sameF (mkF 700000 k) (mkF 700000 k) rfl rfl rfl P.W).mono (fun e w' ⟨h1, h2⟩ => ⟨h1, ⟨w', P.h.trans (h2.mono P.h.size)⟩, rfl⟩)
   clear e hb hK hlt hk hwK
   go_wp2_with fail
   refine wp_region_quiet_below (by kernel_rfl) (by kernel_rfl) ?_
   repeat (go_big_quiet_step (first | (go_at_call 199; refine uh HSM _) | (go_at_call 200; refine uh HMK _)))
   refine wpQuiet_nil ?_
   rintro _ ⟨P, rfl⟩
   clear x0 x1 x2
   go_wp2_with fail
   exact ⟨⟨k + 1, K + 1, by have := uh HK; omega, by go_num, by have := uh HK; omega, (uh HB).trans (P.h.mono (uh HB).size)⟩, by have := uh HK; simp [intOf]; omega⟩
  ·have hI : ¬ K < 64 := by omega
   clear hb hK
   go_wp2_with fail
   go_ret
   exact ⟨rfl, uh HB⟩
end Go.Proofs.YtpeohbkigkfcgaaGreatDoor.Kf
namespace Go.Proofs.YtpeohbkigkfcgaaGreatDoor
open Go Go.ChangeShapes Go.WideShapes Go.ChangeAt Go.RowKit
structure OpV where
 d : Int
 kd : Int
 nm : ByteArray
 to : ByteArray
 pu : Option Addr
 cu : Nat
 b2 : List UInt8
 pos : Int
 n : Int
 pk : Option Addr
 ck : Nat
 ks : List Int
 cp : Int
 pf : Option Addr
 cf : Nat
 fs : List FV
 fu : Int
 dn : Bool
def OpV.cells (o : OpV) : List Value := [.int .i64 o.d, .int .i64 o.kd, .string o.nm, .string o.to, .slice o.pu o.b2.length o.cu, .int .i64 o.pos, .int .i64 o.n, .slice o.pk o.ks.length o.ck, .int .i64 o.cp, .slice o.pf o.fs.length o.cf, .int .i64 o.fu, .bool o.dn]
def OpV.val (o : OpV) : Value := .agg #[.int .i64 o.d, .int .i64 o.kd, .string o.nm, .string o.to, .slice o.pu o.b2.length o.cu, .int .i64 o.pos, .int .i64 o.n, .slice o.pk o.ks.length o.ck, .int .i64 o.cp, .slice o.pf o.fs.length o.cf, .int .i64 o.fu, .bool o.dn]
structure OpIn (w : World) (o : OpV) : Prop where
 nm : o.nm.size <= 9223372036854775806
 to : o.to.size <= 9223372036854775806
 by' : BytesIn w (.slice o.pu o.b2.length o.cu) o.b2
 bl : o.b2.length <= 140737488351232
 ps : -9223372036854775808 <= o.pos /\ o.pos <= 9223372036854775807
 nn : -9223372036854775808 <= o.n /\ o.n <= 9223372036854775807
 ks : o.ks ≠ [] -> KsAt w (.slice o.pk o.ks.length o.ck) o.ks
 kn : o.pk = none -> o.ck = 0
 kl : o.ks.length <= 17592186043904
 fs : FilesIn w o.pf o.fs
 fl : o.fs.length <= 2932031007320
 fn : ∀ f ∈ o.fs, f.nm.size <= 9223372036854775806
 fb : ∀ f ∈ o.fs, f.bs.length <= 140737488351232
theorem KsAt.below {W W' : World} {u : Value} {ks : List Int} (h : KsAt W u ks) (hb : Below W.heap.size W W') : KsAt W' u ks := by
 rcases h with h | ⟨b, off, c, h1, h2⟩
 ·exact .inl h
 ·exact .inr ⟨b, off, c, h1, fun i k hi => keep1 hb (World.block_lt_of_cell? W _ (h2 i k hi)) (h2 i k hi)⟩
theorem OpIn.below {W W' : World} {o : OpV} (h : OpIn W o) (hb : Below W.heap.size W W') : OpIn W' o :=
 ⟨h.nm, h.to, h.by'.below hb, h.bl, h.ps, h.nn, fun e => (h.ks e).below hb, h.kn, h.kl, h.fs.below hb, h.fl, h.fn, h.fb⟩
theorem PlayIs.pair {w0 w W W2 W3 : World} {y N N' j : Nat} {T : Nat -> Option Tw} {U : Nat -> Prop} (h : PlayIs w0 w y N T U) (hj : j < 3) {t : Tw} (ht : T j = some t) {K' : Dk} {S' V' : Nat -> Prop} (hb : Below w.heap.size w W) (hp : DiskOK W2 t.pb N' K' S') (h1 : Sep W W2 t.S S') (hr : RefOK W3 t.rb K' V') (h2 : Sep W2 W3 t.V V') (hI : Inv K') (hN : N <= N') : PlayIs w0 W3 y N' (updT T j (some ⟨t.pb, t.rb, K', S', V'⟩)) U := by
 have h' := h.below hb
 have hT := h'.tw j hj t ht
 have hSV : ∀ q, S' q -> ¬ t.V q := fun q hq hV => by
  rcases h1.new q hq with e | e
  ·exact hT.a q e hV
  ·have := hT.r.sl q hV; omega
 refine h'.change hj ht (t' := ⟨t.pb, t.rb, K', S', V'⟩) rfl rfl ⟨hp.sep h2 hSV, hr, hI, fun q hq hV => ?_⟩ hN ⟨h2.os.trans h1.os, h2.tape.trans h1.tape, h2.output.trans h1.output, Nat.le_trans h1.size h2.size, fun q hq hn => ?_, fun q hq => ?_⟩
 ·rcases h2.new q hV with e | e
  ·exact hSV q hq e
  ·have := hp.sl q hq; omega
 ·exact (h2.block q (Nat.lt_of_lt_of_le hq h1.size) (fun e => hn (.inr e))).trans (h1.block q hq (fun e => hn (.inl e)))
 ·rcases hq with hq | hq
  ·rcases h1.new q hq with e | e
   ·exact .inl (.inl e)
   ·exact .inr e
  ·rcases h2.new q hq with e | e
   ·exact .inl (.inr e)
   ·exact .inr (Nat.le_trans h1.size e)
theorem num_any (x : Int) (w : World) : Calls Tryz.prog 39 #[.int .i64 x] w fun e w' => e = .returned (.int .i64 x) /\ w' = w := by
 go_enter Tryz.func39, Tryz.ntmps39
 go_wp2_with fail
 go_ret
 exact ⟨rfl, rfl⟩
theorem kb_new {w : World} {y : Nat} (c0 : w.cell? ⟨y, 6, none⟩ = some (.int .i64 0)) (ci : ∀ j, 7 <= j -> j <= 26 -> w.cell? ⟨y, j, none⟩ = some (.slice none 0 0)) (fz : ∀ i, w.frozen? ⟨y, i, none⟩ = false) (hP : Kt.Pw w) (hy : y ≠ 0) : KB w y (fun _ => False) := by
 have hn : ∀ {q : Nat}, (Value.slice none 0 0).ownBlock ≠ some q := fun e => by cases e
 refine ⟨0, 0, .slice none 0 0, fun _ => ⟨.slice none 0 0, 0, .slice none 0 0, .slice none 0 0, 0, 0, fun _ => 0⟩, 0, .slice none 0 0, fun _ => ⟨.slice none 0 0, 0, .slice none 0 0, .slice none 0 0, 0, 0, fun _ => ⟨#[]⟩⟩, 0, .slice none 0 0, fun _ => ⟨.slice none 0 0, 0, .slice none 0 0, .slice none 0 0, 0, 0, fun _ => ⟨⟨#[]⟩, none, 0, 0, 0⟩⟩, ?_, fun i hi => by omega, fun i hi => by omega, fun i hi => by omega⟩
 refine ⟨c0, ⟨ci 7 (by omega) (by omega), fz, World.ownsRow_nil _ _ _ _, hn, fun i hi => by omega, fun i hi => by omega, fun i j hi => by omega⟩, ⟨ci 10 (by omega) (by omega), fz, World.ownsRow_nil _ _ _ _, hn, fun i hi => by omega, fun i hi => by omega, fun i j hi => by omega, hP, hy, hn, fun i hi => by omega⟩, ⟨ci 24 (by omega) (by omega), fz, World.ownsRow_nil _ _ _ _, hn, fun i hi => by omega, fun i hi => by omega, fun i j hi => by omega, hP, hy, hn, fun i hi => by omega⟩, by omega, by omega, by omega, by omega, fun j h1 h2 _ _ _ => ci j h1 h2, ?_, ?_, ?_, ?_, ?_, ?_, fun q h => h.elim⟩
 ·rintro q (h | ⟨i, hi, _⟩)
  ·cases h
  ·omega
 ·rintro q (h | ⟨i, hi, _⟩)
  ·cases h
  ·omega
 ·rintro q (h | ⟨i, hi, _⟩)
  ·cases h
  ·omega
 ·rintro q (h | ⟨i, hi, _⟩)
  ·cases h
  ·omega
 ·rintro q (h | ⟨i, hi, _⟩)
  ·cases h
  ·omega
 ·rintro q (h | ⟨i, hi, _⟩)
  ·cases h
  ·omega
theorem play_new {w0 w : World} {y : Nat} (hb : Below w0.heap.size w0 w) (hz : 0 < w0.heap.size) (hy : w0.heap.size <= y) (cp : ∀ i, i < 6 -> w.cell? ⟨y, i, none⟩ = some (.pointer none)) (c0 : w.cell? ⟨y, 6, none⟩ = some (.int .i64 0)) (ci : ∀ j, 7 <= j -> j <= 26 -> w.cell? ⟨y, j, none⟩ = some (.slice none 0 0)) (fz : ∀ i, w.frozen? ⟨y, i, none⟩ = false) (hP : Kt.Pw w) : PlayIs w0 w y 64 (fun _ => none) (fun _ => False) :=
 ⟨hb, hz, hy, fun _ h => h.elim, fun _ _ _ h => (by cases h), fun i hi => cp i (by omega), fun i hi => cp (3 + i) (by omega), kb_new c0 ci fz hP (by omega), fun _ _ _ h => (by cases h), fun _ _ _ h => (by cases h), fun _ _ _ h => (by cases h), fun _ _ _ _ _ _ _ h => (by cases h)⟩
def OpsAt (W : World) (v : Value) (K : Nat) (X : Nat -> OpV) : Prop :=
 (K = 0 /\ ∃ p c, v = .slice p 0 c) \/ ∃ b off c, v = .slice (some ⟨b, off, none⟩) K c /\ ∀ i, i < K -> ∀ j u, (X i).cells[j]? = some u -> W.cell? ⟨b, off + (i * 12 + j), none⟩ = some u
end Go.Proofs.YtpeohbkigkfcgaaGreatDoor
namespace Go.Proofs.YtpeohbkigkfcgaaGreatDoor
open Go Go.ChangeShapes Go.WideShapes Go.ChangeAt Go.RowKit
attribute [local go_sem] setCell_drewN alloc_drewN
theorem info55 : (Tryz.prog.info? 55).map (fun i => (i.zero, i.size, i.bytes)) = some (some (.slice none 0 0), 1, 24) := by kernel_rfl
theorem step_append_own {t : TypeId} {ops : Array Oper} {o : Oper} {a : Act} {K : Act -> World -> Prop} {Q : Exit -> Act -> World -> Prop} {E : Prop} (w : World) (hgd : o.guard = none) (s x : Operand)
  (ho : o.op = .call { callee := .builtin .append, args := #[s, x], argTypes := #[t, t] })
  (base : Nat) (e : TypeId) (i : TypeInfo) (z : Value) (size bytes : Nat) (ht : Tryz.prog.underlying t = some (.slice e)) (hi : Tryz.prog.info? e = some i) (hz : i.zero = some z)
  (hsize : i.size = size) (hby : i.bytes = bytes) (hzs : z.cells.size = size) (hsz : 0 < size)
  (v : Value) (n : Nat) (xs : List Value) (hs : a.eval s = v) (hown : w.ownsRow base e size v n xs)
  (ad : Addr) (m c : Nat) (news : List Value) (hx : a.eval x = .slice (some ad) m c) (hl : news.length = m * size) (hnews : ∀ j u, news[j]? = some u -> w.cell? (ad.add j) = some u) (h1 : ∀ u ∈ news, u.oneCell' = true)
  (h63 : n + m <= maxLen) (hbytes : (n + m) * bytes <= 140737488355328) (hbase : base <= w.heap.size)
  (h : ∀ v' w', w'.ownsRow base e size v' (n + m) (xs ++ news) -> w.grownBy w' v.ownBlock -> K (a.put o.dst v') w') :
  if Region.wanted o (yielded ops a.tmps) = true then Oper.wp Tryz.prog o a w K Q else E := by
 have hw : Region.wanted o (yielded ops a.tmps) = true := by simp [Region.wanted, hgd]
 rw [if_pos hw]
 exact wp_append_own w s x t ho base e i z size bytes ht hi hz hsize hby hzs hsz v n xs hs hown ad m c news hx hl hnews h1 h63 hbytes hbase (fun v' w' h2 h3 _ => h v' w' h2 h3)
def lcells (g n c : Nat -> Nat) (k : Nat) : List Value := (List.range k).map fun i => .slice (some ⟨g i, 0, none⟩) (n i) (c i)
theorem lcells_get (g n c : Nat -> Nat) (k i : Nat) (h : i < k) : (lcells g n c k)[i]? = some (.slice (some ⟨g i, 0, none⟩) (n i) (c i)) := by simp [lcells, h]
theorem lcells_len (g n c : Nat -> Nat) (k : Nat) : (lcells g n c k).length = k := by simp [lcells]
theorem lcells_succ (g n c : Nat -> Nat) (k : Nat) : lcells g n c (k + 1) = lcells g n c k ++ [.slice (some ⟨g k, 0, none⟩) (n k) (c k)] := by simp [lcells, List.range_succ]
theorem lcells_ext {g n c g' n' c' : Nat -> Nat} (k : Nat) (h : ∀ i, i < k -> g i = g' i /\ n i = n' i /\ c i = c' i) : lcells g n c k = lcells g' n' c' k := by
 apply List.ext_getElem?
 intro i
 by_cases hi : i < k
 ·rw [lcells_get _ _ _ _ _ hi, lcells_get _ _ _ _ _ hi, (h i hi).1, (h i hi).2.1, (h i hi).2.2]
 ·rw [List.getElem?_eq_none (by rw [lcells_len]; omega), List.getElem?_eq_none (by rw [lcells_len]; omega)]
def FV.fe (f : FV) (g c : Nat) : Kf.FE := ⟨f.nm, some ⟨g, 0, none⟩, f.bs.length, c, f.sy⟩
def FV.fn (f : FV) : Nat -> Nat := fun j => (f.bs[j]?.getD 0).toNat
instance : Inhabited FV := ⟨⟨⟨#[]⟩, [], 0⟩⟩
structure Lo (W : World) (B : Nat) (l : List FV) (k : Nat) (g c : Nat -> Nat) (lv fv : Value) : Prop where
 lr : W.ownsRow B 55 1 lv k (lcells g (fun i => (l[i]?.getD default).bs.length + 64) c k)
 fr : W.ownsRow B 82 3 fv k (Kf.fcells (fun i => (l[i]?.getD default).fe (g i) (c i)) k)
 ls : ∀ i, i < k -> W.ownsRow B 5 1 (.slice (some ⟨g i, 0, none⟩) ((l[i]?.getD default).bs.length + 64) (c i)) ((l[i]?.getD default).bs.length + 64) (Kp.bcells (Kp.cat (l[i]?.getD default).fn (l[i]?.getD default).bs.length (Kp.patN 700000)) ((l[i]?.getD default).bs.length + 64))
theorem Lo.below {W W' : World} {B k : Nat} {l : List FV} {g c : Nat -> Nat} {lv fv : Value} (h : Lo W B l k g c lv fv) (hb : Below W.heap.size W W') : Lo W' B l k g c lv fv :=
 ⟨row_far h.lr (fun q hq => hb.block q (h.lr.lt q hq).2), row_far h.fr (fun q hq => hb.block q (h.fr.lt q hq).2), fun i hi => row_far (h.ls i hi) (fun q hq => hb.block q ((h.ls i hi).lt q hq).2)⟩
theorem Lo.nil (W : World) (B : Nat) (l : List FV) (g c : Nat -> Nat) : Lo W B l 0 g c (.slice none 0 0) (.slice none 0 0) := ⟨World.ownsRow_nil _ _ _ _, World.ownsRow_nil _ _ _ _, fun i hi => by omega⟩
def upn (f : Nat -> Nat) (k x : Nat) : Nat -> Nat := fun i => if i = k then x else f i
theorem upn_same (f : Nat -> Nat) (k x : Nat) : upn f k x k = x := by simp [upn]
theorem upn_other (f : Nat -> Nat) {i k : Nat} (x : Nat) (h : i ≠ k) : upn f k x i = f i := by simp [upn, h]
theorem Lo.push {w2 w3 w5 : World} {B k g' c' : Nat} {l : List FV} {x : FV} {g c : Nat -> Nat} {lv fv lv' fv' : Value} {o o' : Obj} (h : Lo w2 B l k g c lv fv) (hx : l[k]? = some x) (hz : B <= w2.heap.size)
  (hn : w2.ownsRow B 5 1 (.slice (some ⟨g', 0, none⟩) (x.bs.length + 64) c') (x.bs.length + 64) (Kp.bcells (Kp.cat x.fn x.bs.length (Kp.patN 700000)) (x.bs.length + 64)))
  (h3 : w3.ownsRow B 55 1 lv' (k + 1) (lcells g (fun i => (l[i]?.getD default).bs.length + 64) c k ++ [.slice (some ⟨g', 0, none⟩) (x.bs.length + 64) c'])) (hg3 : (w2.alloc o).grownBy w3 lv.ownBlock)
  (h5 : w5.ownsRow B 82 3 fv' (k + 1) (Kf.fcells (fun i => (l[i]?.getD default).fe (g i) (c i)) k ++ [.string x.nm, .slice (some ⟨g', 0, none⟩) x.bs.length c', .int .i64 x.sy])) (hg5 : (w3.alloc o').drew.grownBy w5 fv.ownBlock) : Lo w5 B l (k + 1) (upn g k g') (upn c k c') lv' fv' := by
 have hold : ∀ i, i < k -> upn g k g' i = g i /\ upn c k c' i = c i := fun i hi => ⟨upn_other _ _ (by omega), upn_other _ _ (by omega)⟩
 have hxk : l[k]?.getD default = x := by rw [hx]; rfl
 have hz3 := hg3.size
 rw [World.size_alloc] at hz3
 have keep3 : ∀ {e s n : Nat} {v : Value} {xs : List Value}, e ≠ 55 -> w2.ownsRow B e s v n xs -> w3.ownsRow B e s v n xs := fun he hr => row_far hr (fun q hq => by
  have hlt := (hr.lt q hq).2
  rw [hg3.block q (by rw [World.size_alloc]; omega) (fun e' => rows_apart hr h.lr he hq e'.symm)]
  exact Below.heap_alloc _ _ _ hlt)
 have keep5 : ∀ {e s n : Nat} {v : Value} {xs : List Value}, e ≠ 82 -> w3.ownsRow B e s v n xs -> w5.ownsRow B e s v n xs := fun he hr => row_far hr (fun q hq => by
  have hlt := (hr.lt q hq).2
  rw [hg5.block q (by show q < (w3.alloc o').heap.size; rw [World.size_alloc]; omega) (fun e' => rows_apart hr (keep3 (by decide) h.fr) he hq e'.symm)]
  exact Below.heap_alloc _ _ _ hlt)
 refine ⟨?_, ?_, fun i hi => ?_⟩
 ·rw [lcells_succ, upn_same, upn_same, hxk, lcells_ext k (g' := g) (n' := fun i => (l[i]?.getD default).bs.length + 64) (c' := c) (fun i hi => ⟨(hold i hi).1, rfl, (hold i hi).2⟩)]
  exact keep5 (by decide) h3
 ·show w5.ownsRow B 82 3 fv' (k + 1) (Kf.fcells _ k ++ ((l[k]?.getD default).fe (upn g k g' k) (upn c k c' k)).cells)
  rw [upn_same, upn_same, hxk, Kf.fcells_ext (G := fun i => (l[i]?.getD default).fe (g i) (c i)) k (fun i hi => by rw [(hold i hi).1, (hold i hi).2])]
  exact h5
 ·by_cases e : i = k
  ·subst e
   rw [upn_same, upn_same, hxk]
   exact keep5 (by decide) (keep3 (by decide) hn)
  ·rw [upn_other _ _ e, upn_other _ _ e]
   exact keep5 (by decide) (keep3 (by decide) (h.ls i (by omega)))
theorem ret_loose {tmps : Array Value} {w : World} {b : Nat} {a1 a3 : Int} {p : Option Addr} {m c : Nat} {a4 : Bool} {lv rv : Value} (hp : tmps[2]?.getD undef = .pointer (some ⟨b, 0, none⟩)) (hl : tmps[3]?.getD undef = lv) (hr : tmps[4]?.getD undef = rv) (h0 : w.cell? ⟨b, 0, none⟩ = some (.int .i64 a1)) (h1 : w.cell? ⟨b, 1, none⟩ = some (.slice p m c)) (h2 : w.cell? ⟨b, 2, none⟩ = some (.int .i64 a3)) (h3 : w.cell? ⟨b, 3, none⟩ = some (.bool a4)) :
  (results Tryz.f92 tmps).run Tryz.prog w = .ok (.tuple #[.agg #[.int .i64 a1, .slice p m c, .int .i64 a3, .bool a4], lv, rv]) w := by
 simp [results, hp, hl, hr, asAddr, go_sem, h0, h1, h2, h3]
theorem row_form {W : World} {B e sz n : Nat} {v : Value} {xs : List Value} (h : W.ownsRow B e sz v n xs) : ∃ p c, v = .slice p n c := by
 rcases h.2 with ⟨h1, h2⟩ | ⟨g, c, cur, h1, _⟩
 ·exact ⟨none, 0, by rw [h1, h2]⟩
 ·exact ⟨_, c, h1⟩
theorem Kf.room_own {W : World} {B n : Nat} {v : Value} {F : Nat -> Kf.FE} (h : W.ownsRow B 82 3 v n (Kf.fcells F n)) (hn : n <= 2932031007320) (hP : Kt.Pw W) : Calls Tryz.prog 194 #[v] W fun e w' => Kf.RoomOut F n W e w' := by
 rcases h.2 with ⟨h1, h2⟩ | ⟨g, c, cur, h1, _⟩
 ·subst h1 h2
  exact Kf.room_none F W hP
 ·subst h1
  exact Kf.room_some F g 0 n c hn W hP (fun _ => (h.lt g rfl).2) (fun k hk c hc => by rw [Nat.zero_add, h.cellAt (k * 3 + c) (by omega)]; exact Kf.fcells_get F c hc n k hk)
theorem Lo.keep3 {w2 w3 : World} {B k : Nat} {l : List FV} {g c : Nat -> Nat} {lv fv : Value} {o : Obj} (h : Lo w2 B l k g c lv fv) (hg3 : (w2.alloc o).grownBy w3 lv.ownBlock) : w3.ownsRow B 82 3 fv k (Kf.fcells (fun i => (l[i]?.getD default).fe (g i) (c i)) k) := row_far h.fr (fun q hq => by
 have hlt := (h.fr.lt q hq).2
 rw [hg3.block q (by rw [World.size_alloc]; omega) (fun e' => rows_apart h.fr h.lr (by decide) hq e'.symm)]
 exact Below.heap_alloc _ _ _ hlt)
theorem loosened_ok {w : World} (cap fu : Int) (dn : Bool) (pa : Option Addr) (ca : Nat) (l : List FV) (hin : FilesIn w pa l) (hlm : l.length <= 2932031007320) (hbl : ∀ f ∈ l, f.bs.length <= 140737488351232) (hP : Kt.Pw w) :
  Calls Tryz.prog 92 #[.agg #[.int .i64 cap, .slice pa l.length ca, .int .i64 fu, .bool dn]] w fun e w' => ∃ g c lv fv gr cr, e = .returned (.tuple #[.agg #[.int .i64 cap, .slice (some ⟨gr, 0, none⟩) l.length cr, .int .i64 fu, .bool dn], lv, .slice (some ⟨gr, 0, none⟩) (l.length + 64) cr]) /\ Lo w' w.heap.size l l.length g c lv fv /\ w'.ownsRow w.heap.size 82 3 (.slice (some ⟨gr, 0, none⟩) (l.length + 64) cr) (l.length + 64) (Kf.fcells (Kf.fcat (fun i => (l[i]?.getD default).fe (g i) (c i)) l.length (Kf.mkF 700000)) (l.length + 64)) /\ Below w.heap.size w w' := by
 have HIN := hide hin
 have HBL := hide hbl
 have HP := hide hP
 obtain ⟨i1, hi1, hz10, hz11, hz12⟩ := info_parts info55
 have HI1 := hide hi1; have HZ10 := hide hz10; have HZ11 := hide hz11; have HZ12 := hide hz12
 obtain ⟨i2, hi2, hz20, hz21, hz22⟩ := info_parts info82
 have HI2 := hide hi2; have HZ20 := hide hz20; have HZ21 := hide hz21; have HZ22 := hide hz22
 clear hin hbl hP hi1 hz10 hz11 hz12 hi2 hz20 hz21 hz22
 go_enter Tryz.func92, Tryz.ntmps92
 go_wp2_with fail
 obtain ⟨w0, hw0⟩ : ∃ w0, w0 = (((w.alloc (.cells #[.int .i64 cap, .slice pa l.length ca, .int .i64 fu, .bool dn] 59)).alloc (.cells #[.int .i64 0, .slice none 0 0, .int .i64 0, .bool false] 59)).alloc (.cells #[.int .i64 cap, .slice pa l.length ca, .int .i64 fu, .bool dn] 59)) := ⟨_, rfl⟩
 rw [<- hw0]
 have hz0 : w0.heap.size = w.heap.size + 3 := by rw [hw0]; simp
 have HB0 : Hid (Below w.heap.size w w0) := by rw [hw0]; exact bal (bal (bal (Below.refl _ _) _) _) _
 have c1 : Hid (w0.cell? ⟨w.heap.size, 1, none⟩ = some (.slice pa l.length ca)) := by rw [hw0]; show World.cell? _ _ = _; go_simp
 have HT : Hid (∀ i, i < 4 -> w0.cell? ⟨w.heap.size + 1, i, none⟩ = ([.int .i64 0, .slice none 0 0, .int .i64 0, .bool false] : List Value)[i]? /\ w0.cell? ⟨w.heap.size + 1 + 1, i, none⟩ = ([.int .i64 cap, .slice pa l.length ca, .int .i64 fu, .bool dn] : List Value)[i]?) := by
  intro i hi
  rw [hw0]
  match i, hi with
  | 0, _ => exact ⟨by go_simp, by go_simp⟩
  | 1, _ => exact ⟨by go_simp, by go_simp⟩
  | 2, _ => exact ⟨by go_simp, by go_simp⟩
  | 3, _ => exact ⟨by go_simp, by go_simp⟩
 have HTF : Hid (∀ i, w0.frozen? ⟨w.heap.size + 1, i, none⟩ = false /\ w0.frozen? ⟨w.heap.size + 1 + 1, i, none⟩ = false) := by
  intro i
  rw [hw0]
  exact ⟨by go_simp, by go_simp⟩
 clear hw0
 go_loopw [6, 7, 8] (fun lv fv i wr => ∃ (j : Nat) (g c : Nat -> Nat), j <= l.length /\ i = .int .i64 (j : Int) /\ Lo wr (w.heap.size + 3) l j g c lv fv /\ Below w0.heap.size w0 wr) (fun _ _ i _ => l.length - (intOf i).toNat)
 case atStart => exact ⟨0, fun _ => 0, fun _ => 0, by omega, rfl, Lo.nil _ _ _ _ _, Below.refl _ _⟩
 case round =>
  obtain ⟨j, gs, cs, hj, rfl, hLo, hbr⟩ := hrel
  have HLO := hide hLo
  have HBR := hide hbr
  have hzr : w.heap.size + 3 <= wr.heap.size := by have := hbr.size; omega
  have hWB : Hid (∀ W, Below w0.heap.size w0 W -> Below w.heap.size w W) := fun W hb => (uh HB0).trans (hb.mono (uh HB0).size)
  have l1 : wr.cell? ⟨w.heap.size, 1, none⟩ = some (.slice pa l.length ca) := keep1 hbr (by show w.heap.size < w0.heap.size; omega) (uh c1)
  by_cases hlt : j < l.length
  ·obtain ⟨x, hx⟩ : ∃ x, l[j]? = some x := ⟨_, List.getElem?_eq_getElem hlt⟩
   have hne : l ≠ [] := fun e => by rw [e] at hlt; simp at hlt
   obtain ⟨b, off, hpa, hcell⟩ := uh HIN hne
   obtain ⟨p, c, f0, f1, f2, hby⟩ := hcell j x hx
   have hxm : x ∈ l := List.mem_of_getElem? hx
   have hxl := uh HBL x hxm
   subst hpa
   have HS : Hid (∀ W, Below w0.heap.size w0 W -> W.cell? ⟨w.heap.size, 1, none⟩ = some (.slice (some ⟨b, off, none⟩) l.length ca) /\ W.cell? ⟨b, off + j * 3, none⟩ = some (.string x.nm) /\ W.cell? ⟨b, off + j * 3 + 1, none⟩ = some (.slice p x.bs.length c) /\ W.cell? ⟨b, off + j * 3 + 2, none⟩ = some (.int .i64 x.sy)) := fun W hb =>
    ⟨keep1 hb (by show w.heap.size < w0.heap.size; omega) (uh c1), keep1 (uh hWB W hb) (World.block_lt_of_cell? w _ f0) f0, keep1 (uh hWB W hb) (World.block_lt_of_cell? w _ f1) f1, keep1 (uh hWB W hb) (World.block_lt_of_cell? w _ f2) f2⟩
   have l3 := (uh HS wr hbr).2.2.1
   have hrm := hide (Kp.room_in (hby.below (uh hWB wr hbr)) hxl)
   have hI : (j : Int) < (l.length : Int) := by omega
   have hI0 : (0 : Int) <= (j : Int) := by omega
   have HX := hide hx
   clear f0 f1 f2 hby hcell hbr hLo hx hxm hne
   go_wp2_with fail
   refine (uh hrm).mono ?_
   rintro e w2 ⟨g, cg, rfl, hown2, hb2⟩
   have O2 := hide hown2
   have HB2 := hide hb2
   have hcg : x.bs.length + 64 <= cg := by
    rcases hown2.2 with ⟨h1, _⟩ | ⟨g1, cap1, cur, h1, _, _, h2, _⟩
    ·cases h1
    ·injection h1 with _ _ h3
     omega
   have hz2 := hb2.size
   have LO2 := hide ((uh HLO).below hb2)
   have B2 : Hid (Below w0.heap.size w0 w2) := (uh HBR).trans (hb2.mono (by omega))
   clear hown2 hb2 hrm
   go_wp2_with (at_builtin; refine wpList_append_own _ rfl _ _ 96 rfl (w.heap.size + 3) 55 i1 (.slice none 0 0) 1 24 Tryz.underlying96 (uh HI1) (uh HZ10) (uh HZ11) (uh HZ12) rfl (by decide) _ _ _ rfl ((uh LO2).lr.alloc _) ⟨w2.heap.size, 0, none⟩ 1 1 [.slice (some ⟨g, 0, none⟩) (x.bs.length + 64) cg] rfl rfl (World.news_of_block (heap_alloc_new w2 _)) (by intro u hu; simp at hu; rw [hu]; rfl) (by unfold maxLen; omega) (by omega) (by rw [World.size_alloc]; omega) ?_; intro v3 w3 hown3 hgr3 _; have O3 := hide hown3; have G3 := hide hgr3; have B3 := hide (Below.grown (bal (uh B2) _) hgr3 (by rw [World.size_alloc]; omega) (fun k hk => by have := ((uh LO2).lr.lt k hk).1; omega)); have OF3 := hide ((uh LO2).keep3 hgr3); have hz3 : w2.heap.size < w3.heap.size := (by have := hgr3.size; rw [World.size_alloc] at this; omega); clear hown3 hgr3)
   have hI1 : (0 : Int) <= (x.bs.length : Int) := by omega
   have hI2 : (x.bs.length : Int) <= (cg : Int) := by omega
   have hI3 : x.bs.length <= cg := by omega
   refine wp_region_last (n := 26) (S := fun W => W.cell? ⟨w.heap.size, 1, none⟩ = some (.slice (some ⟨b, off, none⟩) l.length ca) /\ W.cell? ⟨b, off + j * 3, none⟩ = some (.string x.nm) /\ W.cell? ⟨b, off + j * 3 + 1, none⟩ = some (.slice p x.bs.length c) /\ W.cell? ⟨b, off + j * 3 + 2, none⟩ = some (.int .i64 x.sy)) (by kernel_rfl) (by first | (exact uh HS w3 (uh B3))) (fun hHeld => ?_)
   refine tkW 0 ?_; refine tkW 1 ?_; refine tkN 2 ?_; refine tkW 3 ?_; refine tkW 4 ?_; refine tkW 5 ?_; refine tkN 6 ?_; refine tkW 7 ?_; refine tkW 8 ?_; refine tkN 9 ?_; refine tkW 10 ?_
   refine tkW 11 ?_; refine tkW 12 ?_; refine tkN 13 ?_; refine tkW 14 ?_; refine tkW 15 ?_; refine tkW 16 ?_; refine tkN 17 ?_; refine tkW 18 ?_; refine tkW 19 ?_; refine tkW 20 ?_
   refine tkN 21 ?_; refine tkW 22 ?_
   refine wpAnyL_one (i := 23) (by kernel_rfl) rfl (fun KK hK => ?_)
   go_simp
   refine hK.out _ _ (by first | (exact uh HS _ ((bal (uh B3) _).drew))) (fun hHeld => ?_)
   clear hK KK
   refine wpAnyL_one (i := 24) (by kernel_rfl) rfl (fun KK hK => ?_)
   refine step_append_own _ (by rfl) _ _ (by rfl) (w.heap.size + 3) 82 i2 (.agg #[.string ⟨#[]⟩, .slice none 0 0, .int .i64 0]) 3 48 Tryz.underlying57 (uh HI2) (uh HZ20) (uh HZ21) (uh HZ22) (by rfl) (by decide) u7 j _ (by rfl) ((uh OF3).alloc _) ⟨w3.heap.size, 0, none⟩ 1 1 [.string x.nm, .slice (some ⟨g, 0, none⟩) x.bs.length cg, .int .i64 x.sy] (by rfl) (by rfl) (World.news_of_block (heap_alloc_new w3 _)) (by intro u hu; simp at hu; rcases hu with rfl | rfl | rfl <;> rfl) (by unfold maxLen; omega) (by omega) (by have := World.size_alloc w3; have := (uh B3).size; show w.heap.size + 3 <= (World.alloc w3 _).heap.size; rw [World.size_alloc]; omega) ?_
   intro v5 w5 hown5 hgr5
   have O5 := hide hown5
   have B5 : Hid (Below w0.heap.size w0 w5) := Below.grown ((bal (uh B3) _).drew) hgr5 (by have := (uh B3).size; show w0.heap.size <= (World.alloc w3 _).heap.size; rw [World.size_alloc]; omega) (fun k hk => by have := ((uh OF3).lt k hk).1; omega)
   have HGR5 := hide hgr5
   clear hown5 hgr5
   refine hK.out _ _ (by first | (exact uh HS _ (uh B5))) (fun hHeld => ?_)
   clear hK KK
   refine tkW 25 ?_
   refine wpAnyL_done (by kernel_rfl) ?_
   go_wp2_with fail
   refine ⟨⟨j + 1, upn gs j g, upn cs j cg, by omega, by go_num, (uh LO2).push (uh HX) (by omega) (row_base (uh O2) (by omega)) (uh O3) (uh G3) (uh O5) (uh HGR5), uh B5⟩, by simp [intOf]; omega⟩
  ·have hjl : j = l.length := by omega
   subst hjl
   have hI : ¬ (l.length : Int) < (l.length : Int) := by omega
   obtain ⟨pq, cq, hu7⟩ := row_form hLo.fr
   have hrm := hide (Kf.room_own hLo.fr hlm (((uh HP).below (uh HB0)).below hbr))
   subst hu7
   clear hbr hLo
   go_wp2_with fail
   refine (uh hrm).mono ?_
   rintro e w4 ⟨gr, cr, rfl, hown4, hb4⟩
   have hcr : l.length + 64 <= cr := by
    rcases hown4.2 with ⟨h1, _⟩ | ⟨g1, cap1, cur, h1, _, _, h2, _⟩
    ·cases h1
    ·injection h1 with _ _ h3
     omega
   have hz4 := hb4.size
   have O4 := hide hown4
   have LO4 := hide ((uh HLO).below hb4)
   have B4 : Hid (Below w0.heap.size w0 w4) := (uh HBR).trans (hb4.mono (by omega))
   have q0 := keep1 (uh B4) (by show w.heap.size + 1 < w0.heap.size; omega) ((uh HT 0 (by omega)).1)
   have q1 := keep1 (uh B4) (by show w.heap.size + 1 < w0.heap.size; omega) ((uh HT 1 (by omega)).1)
   have q2 := keep1 (uh B4) (by show w.heap.size + 1 < w0.heap.size; omega) ((uh HT 2 (by omega)).1)
   have q3 := keep1 (uh B4) (by show w.heap.size + 1 < w0.heap.size; omega) ((uh HT 3 (by omega)).1)
   have r0 := keep1 (uh B4) (by show w.heap.size + 1 + 1 < w0.heap.size; omega) ((uh HT 0 (by omega)).2)
   have r1 := keep1 (uh B4) (by show w.heap.size + 1 + 1 < w0.heap.size; omega) ((uh HT 1 (by omega)).2)
   have r2 := keep1 (uh B4) (by show w.heap.size + 1 + 1 < w0.heap.size; omega) ((uh HT 2 (by omega)).2)
   have r3 := keep1 (uh B4) (by show w.heap.size + 1 + 1 < w0.heap.size; omega) ((uh HT 3 (by omega)).2)
   have g0 := fun i => keepF (uh B4) (by show w.heap.size + 1 < w0.heap.size; omega) ((uh HTF i).1)
   have g1 := fun i => keepF (uh B4) (by show w.heap.size + 1 + 1 < w0.heap.size; omega) ((uh HTF i).2)
   have hI1 : (0 : Int) <= (l.length : Int) := by omega
   have hI2 : (l.length : Int) <= (cr : Int) := by omega
   have hI3 : l.length <= cr := by omega
   clear hown4 hb4 hrm l1
   go_wp2_with fail
   refine bodyPost_ret (ret_loose (b := w.heap.size + 1) (a1 := cap) (a3 := fu) (a4 := dn) (p := some ⟨gr, 0, none⟩) (m := l.length) (c := cr) (by rfl) (by rfl) (by rfl) (by go_simp) (by go_simp) (by go_simp) (by go_simp)) rfl ?_
   clear q0 q1 q2 q3 r0 r1 r2 r3 g0 g1
   obtain ⟨WF, hWF⟩ : ∃ WF, WF = (((((w4.setCell ⟨w.heap.size + 1 + 1, 1, none⟩ (.slice (some ⟨gr, 0, none⟩) l.length cr)).setCell ⟨w.heap.size + 1, 0, none⟩ (.int .i64 cap)).setCell ⟨w.heap.size + 1, 1, none⟩ (.slice (some ⟨gr, 0, none⟩) l.length cr)).setCell ⟨w.heap.size + 1, 2, none⟩ (.int .i64 fu)).setCell ⟨w.heap.size + 1, 3, none⟩ (.bool dn)) := ⟨_, rfl⟩
   rw [<- hWF]
   have hq : ∀ q, q ≠ w.heap.size + 1 -> q ≠ w.heap.size + 1 + 1 -> WF.heap[q]? = w4.heap[q]? := fun q h1 h2 => by
    rw [hWF, Below.heap_setCell _ ⟨w.heap.size + 1, 3, none⟩ _ q h1, Below.heap_setCell _ ⟨w.heap.size + 1, 2, none⟩ _ q h1, Below.heap_setCell _ ⟨w.heap.size + 1, 1, none⟩ _ q h1, Below.heap_setCell _ ⟨w.heap.size + 1, 0, none⟩ _ q h1, Below.heap_setCell _ ⟨w.heap.size + 1 + 1, 1, none⟩ _ q h2]
   have hB4 := uh hWB w4 (uh B4)
   have hBF : Below w.heap.size w WF := ⟨by rw [hWF]; exact hB4.os, by rw [hWF]; exact hB4.tape, by rw [hWF]; exact hB4.output, by rw [hWF]; simpa using hB4.size, fun q hlt => (hq q (by omega) (by omega)).trans (hB4.block q hlt)⟩
   have hrow : ∀ {e s n : Nat} {v : Value} {xs : List Value}, w4.ownsRow (w.heap.size + 3) e s v n xs -> WF.ownsRow w.heap.size e s v n xs := fun h => row_base (row_far h (fun q hh => hq q (by have := (h.lt q hh).1; omega) (by have := (h.lt q hh).1; omega))) (by omega)
   exact ⟨gs, cs, u6, .slice pq l.length cq, gr, cr, rfl, ⟨hrow (uh LO4).lr, hrow (uh LO4).fr, fun i hi => hrow ((uh LO4).ls i hi)⟩, hrow (row_base (uh O4) (by omega)), hBF⟩
theorem conv_in0 {W : World} {c : Nat} {a : Addr} : (convert 55 9 (.slice (some a) 0 c)).run Tryz.prog W = .ok (.string (txtB [])) W := by
 rw [run_convert_bytes_string W 55 9 5 _ _ c Tryz.underlying55 Tryz.underlying5 Tryz.underlying9]
 simp only [Conv.bytesToString, loadCells, loadCellsFrom]
 simp
 rfl
theorem conv_in {W : World} {c : Nat} {p : Option Addr} {bs : List UInt8} (h : BytesIn W (.slice p bs.length c) bs) : (convert 55 9 (.slice p bs.length c)).run Tryz.prog W = .ok (.string (txtB bs)) W := by
 by_cases e : bs = []
 ·subst e
  cases p with
  | none => exact run_convert_bytes_nil W 55 5 Tryz.underlying55 Tryz.underlying5 _ _ 9 Tryz.underlying9
  | some a => exact conv_in0
 ·rcases h.at e with ⟨_, h1⟩ | ⟨b, off, c', h1, h2⟩
  ·exact absurd h1 e
  ·injection h1 with h1 _ h1c
   subst h1 h1c
   refine run_convert_bytes_arg W 55 5 Tryz.underlying55 Tryz.underlying5 b off bs.length _ (bs.map fun b => (b.toNat : Int)) (by simp) (fun i hi => ?_) 9 Tryz.underlying9
   rw [h2 i _ (bcs_get hi)]
   simp [List.getD_eq_getElem?_getD, hi]
theorem new_no (x : Int) (hx : canBe 0 x = false) (w : World) : Calls Tryz.prog 38 #[.int .i64 x] w fun e w' => e = .returned (.tuple #[.pointer none, .int .i64 1]) /\ w' = w := by
 go_enter Tryz.func38, Tryz.ntmps38
 go_wp2_with (first | (go_at_call 143; refine (capacity_ok x _).mono ?_; rintro e w' ⟨rfl, hw⟩; rw [hw, hx]; clear hw w'))
 go_ret2
 exact ⟨rfl, rfl⟩
theorem same_in {w : World} (cap fuse : Int) (down : Bool) (pa pb : Option Addr) (ca cb : Nat) (l : List FV) (ha : FilesIn w pa l) (hb : FilesIn w pb l) (hl : l.length <= 2932031007320) :
  Calls Tryz.prog 11 #[.agg #[.int .i64 cap, .slice pa l.length ca, .int .i64 fuse, .bool down], .agg #[.int .i64 cap, .slice pb l.length cb, .int .i64 fuse, .bool down]] w fun e w' => e = .returned (.bool true) /\ Below w.heap.size w w' := by
 obtain ⟨L, hL⟩ : ∃ L, L = l.length := ⟨_, rfl⟩
 rw [<- hL] at hl ⊢
 have HL := hide hL
 clear hL
 obtain ⟨w1, hw1⟩ : ∃ w1, w1 = (w.alloc (.cells #[.int .i64 cap, .slice pa L ca, .int .i64 fuse, .bool down] 59)).alloc (.cells #[.int .i64 cap, .slice pb L cb, .int .i64 fuse, .bool down] 59) := ⟨_, rfl⟩
 have hb1 : Below w.heap.size w w1 := by rw [hw1]; exact bal (bal (Below.refl _ _) _) _
 have hz1 : w1.heap.size = w.heap.size + 1 + 1 := by rw [hw1]; simp
 have k1 : w1.cell? ⟨w.heap.size, 1, none⟩ = some (.slice pa L ca) := by rw [hw1]; simp
 have k2 : w1.cell? ⟨w.heap.size + 1, 1, none⟩ = some (.slice pb L cb) := by rw [hw1]; simp
 have HA := hide (ha.below hb1); have HB := hide (hb.below hb1)
 have H1 := hide hw1
 have HB1 := hide hb1
 clear ha hb hw1 hb1
 cases down <;>
 ·go_enter Tryz.func11, Tryz.ntmps11
  go_wp2_with fail
  rw [<- uh H1]
  go_loopw [5] (fun u wr => ∃ i : Nat, i <= L /\ u = .int .i64 (i : Int) /\ Below w1.heap.size w1 wr) (fun u _ => L - (intOf u).toNat)
  case atStart => exact ⟨0, Nat.zero_le _, rfl, Below.refl _ _⟩
  case round =>
   obtain ⟨i, hi, rfl, hbr⟩ := hrel
   have l1 := keep1 hbr (by omega) k1
   have l2 := keep1 hbr (by omega) k2
   have HBR := hide hbr
   by_cases hlt : i < L
   ·have hlt' : i < l.length := by rw [<- uh HL]; exact hlt
    have hne : l ≠ [] := fun e => by rw [e] at hlt'; simp at hlt'
    obtain ⟨x, hkx⟩ : ∃ x, l[i]? = some x := ⟨_, List.getElem?_eq_getElem hlt'⟩
    obtain ⟨ga, oa, ea, fa⟩ := uh HA hne
    obtain ⟨gb, ob, eb, fb⟩ := uh HB hne
    obtain ⟨p1, c1, a0, a1, a2, ra⟩ := fa i x hkx
    obtain ⟨p2, c2, d0, d1, d2, rb⟩ := fb i x hkx
    subst ea eb
    have a0 := keep1 hbr (World.block_lt_of_cell? w1 _ a0) a0
    have a1 := keep1 hbr (World.block_lt_of_cell? w1 _ a1) a1
    have a2 := keep1 hbr (World.block_lt_of_cell? w1 _ a2) a2
    have d0 := keep1 hbr (World.block_lt_of_cell? w1 _ d0) d0
    have d1 := keep1 hbr (World.block_lt_of_cell? w1 _ d1) d1
    have d2 := keep1 hbr (World.block_lt_of_cell? w1 _ d2) d2
    have hra := ra.below hbr
    have hrb := rb.below hbr
    obtain ⟨T, hT⟩ : ∃ T, T = txtB x.bs := ⟨_, rfl⟩
    have cv1 : ∀ o1 o2, (convert 55 9 (.slice p1 x.bs.length c1)).run Tryz.prog ((wr.alloc o1).alloc o2) = .ok (.string T) ((wr.alloc o1).alloc o2) := fun o1 o2 => by rw [hT]; exact conv_in ((hra.below (bal (Below.refl _ _) _)).below (bal (Below.refl _ _) _))
    have cv2 : ∀ o1 o2, (convert 55 9 (.slice p2 x.bs.length c2)).run Tryz.prog ((wr.alloc o1).alloc o2) = .ok (.string T) ((wr.alloc o1).alloc o2) := fun o1 o2 => by rw [hT]; exact conv_in ((hrb.below (bal (Below.refl _ _) _)).below (bal (Below.refl _ _) _))
    have la0 : ∀ o, (wr.alloc o).cell? ⟨gb, ob + i * 3, none⟩ = some (.string x.nm) := fun o => keep1 (bal (Below.refl wr.heap.size wr) o) (World.block_lt_of_cell? wr _ d0) d0
    have la1 : ∀ o, (wr.alloc o).cell? ⟨gb, ob + i * 3 + 1, none⟩ = some (.slice p2 x.bs.length c2) := fun o => keep1 (bal (Below.refl wr.heap.size wr) o) (World.block_lt_of_cell? wr _ d1) d1
    have la2 : ∀ o, (wr.alloc o).cell? ⟨gb, ob + i * 3 + 2, none⟩ = some (.int .i64 x.sy) := fun o => keep1 (bal (Below.refl wr.heap.size wr) o) (World.block_lt_of_cell? wr _ d2) d2
    have l2a : ∀ o, (wr.alloc o).cell? ⟨w.heap.size + 1, 1, none⟩ = some (.slice (some ⟨gb, ob, none⟩) L cb) := fun o => keep1 (bal (Below.refl wr.heap.size wr) o) (World.block_lt_of_cell? wr _ l2) l2
    have i0 : (0 : Int) <= (i : Int) := by omega
    have i1 : (i : Int) < (L : Int) := by omega
    clear hbr ra rb hra hrb hT hkx d0 d1 d2 l2 fa fb hne hlt'
    go_wp2_with fail
    exact ⟨⟨i + 1, by omega, by go_num, ((uh HBR).alloc (uh HBR).size _).alloc (by rw [World.size_alloc]; have := (uh HBR).size; omega) _⟩, by simp [intOf]; omega⟩
   ·have j1 : ¬ (i : Int) < (L : Int) := by omega
    clear hbr
    go_wp2_with fail
    go_ret
    exact ⟨rfl, (uh HB1).trans ((uh HBR).mono (by omega))⟩
def Live (w : World) (g n : Nat) : Prop := ∀ k, k < n -> (∃ v, w.cell? ⟨g, k, none⟩ = some v) /\ w.frozen? ⟨g, k, none⟩ = false
theorem Live.set {w : World} {g n : Nat} (h : Live w g n) (b j : Nat) (v : Value) : Live (w.setCell ⟨b, j, none⟩ v) g n := fun k hk => by
 refine ⟨?_, by rw [World.frozen?_setCell]; exact (h k hk).2⟩
 obtain ⟨u, hu⟩ := (h k hk).1
 by_cases e : (⟨b, j, none⟩ : Addr) = ⟨g, k, none⟩
 ·rw [e]
  exact ⟨v, World.cell?_setCell_same _ _ _ hu⟩
 ·exact ⟨u, (World.cell?_setCell_other _ _ _ _ e).trans hu⟩
theorem Live.of_own {w : World} {B e s n g c : Nat} {xs : List Value} (h : w.ownsRow B e s (.slice (some ⟨g, 0, none⟩) n c) n xs) : Live w g (n * s) := fun k hk => by
 refine ⟨?_, h.frozenAt k⟩
 rw [h.cellAt k hk]
 exact ⟨_, List.getElem?_eq_getElem (by rw [h.1]; exact hk)⟩
structure Ov (w wr : World) (X : Nat -> Prop) : Prop where
 os : wr.os = w.os
 tape : wr.tape = w.tape
 output : wr.output = w.output
 size : wr.heap.size = w.heap.size
 block : ∀ q, ¬ X q -> wr.heap[q]? = w.heap[q]?
 live : ∀ g n, Live w g n -> Live wr g n
theorem Ov.refl (w : World) (X : Nat -> Prop) : Ov w w X := ⟨rfl, rfl, rfl, rfl, fun _ _ => rfl, fun _ _ h => h⟩
theorem Ov.set {w wr : World} {X : Nat -> Prop} (h : Ov w wr X) {b : Nat} (hb : X b) (j : Nat) (v : Value) : Ov w (wr.setCell ⟨b, j, none⟩ v) X :=
 ⟨h.os, h.tape, h.output, by simp [h.size], fun q hq => (Below.heap_setCell _ ⟨b, j, none⟩ _ q (fun e => hq (by rw [e]; exact hb))).trans (h.block q hq), fun g n hl => (h.live g n hl).set _ _ _⟩
theorem Ov.sep {w wr : World} {X : Nat -> Prop} (h : Ov w wr X) : Sep w wr X X := ⟨h.os, h.tape, h.output, by rw [h.size]; exact Nat.le_refl _, fun q _ hq => h.block q hq, fun _ hq => .inl hq⟩
theorem over_ok {w : World} (X : Nat -> Prop) (pl : Option Addr) (K cl gl : Nat) (g n c : Nat -> Nat) (hK : K <= 9223372036854775807) (hpl : 0 < K -> pl = some ⟨gl, 0, none⟩) (hgl : ¬ X gl) (hl : ∀ i, i < K -> w.cell? ⟨gl, i, none⟩ = some (.slice (some ⟨g i, 0, none⟩) (n i) (c i)) /\ X (g i) /\ Live w (g i) (n i) /\ n i <= 9223372036854775807)
  (pr : Option Addr) (m cr gr : Nat) (hm : m <= 9223372036854775807) (hpr : 0 < m -> pr = some ⟨gr, 0, none⟩ /\ X gr) (hr : Live w gr (m * 3)) :
  Calls Tryz.prog 97 #[.slice pl K cl, .slice pr m cr] w fun e w' => e = .returned (.tuple #[]) /\ Ov w w' X := by
 have HL := hide hl
 have HR := hide hr
 have HPR := hide hpr
 have HPL := hide hpl
 clear hl hr hpr hpl
 go_enter Tryz.func97, Tryz.ntmps97
 go_wp2_with fail
 go_loopw [4, 5] (fun i _ wr => ∃ (j : Nat), j <= K /\ i = .int .i64 (j : Int) /\ Ov w wr X) (fun i _ _ => K - (intOf i).toNat)
 case atStart => exact ⟨0, by omega, rfl, Ov.refl _ _⟩
 case round =>
  obtain ⟨j, hj, rfl, hO⟩ := hrel
  have HO := hide hO
  by_cases hlt : j < K
  ·have hp := uh HPL (by omega)
   subst hp
   obtain ⟨h1, h2, h3, h4⟩ := uh HL j hlt
   have HX := hide h2
   have HV := hide h3
   have hI : (j : Int) < (K : Int) := by omega
   have hI0 : (0 : Int) <= (j : Int) := by omega
   have HC : Hid (∀ wr, Ov w wr X -> wr.cell? ⟨gl, j, none⟩ = some (.slice (some ⟨g j, 0, none⟩) (n j) (c j))) := fun wr h => (World.cell?_of_block (h.block gl hgl)).trans h1
   obtain ⟨gj, hgj⟩ : ∃ gj, gj = g j := ⟨_, rfl⟩
   obtain ⟨nj, hnj⟩ : ∃ nj, nj = n j := ⟨_, rfl⟩
   obtain ⟨cj, hcj⟩ : ∃ cj, cj = c j := ⟨_, rfl⟩
   rw [<- hgj] at HC HX HV
   rw [<- hnj] at HC HV h4
   rw [<- hcj] at HC
   clear h1 h2 h3 hO hgj hnj hcj HL
   go_wp2_with fail
   go_loopw [5] (fun k wk => ∃ (i : Nat), i <= nj /\ k = .int .i64 (i : Int) /\ Ov w wk X) (fun k _ => nj - (intOf k).toNat)
   case atStart => exact ⟨0, by omega, rfl, uh HO⟩
   case round =>
    obtain ⟨i, hi, rfl, hk⟩ := hrel
    have HOK := hide hk
    have l1 := uh HC _ hk
    by_cases hlt2 : i < nj
    ·have hJ : (i : Int) < (nj : Int) := by omega
     have hJ0 : (0 : Int) <= (i : Int) := by omega
     obtain ⟨⟨u, hu⟩, hf⟩ := hk.live _ _ (uh HV) i hlt2
     clear hk
     go_wp2_with fail
     exact ⟨⟨i + 1, by omega, by go_num, (uh HOK).set (uh HX) _ _⟩, by simp [intOf]; omega⟩
    ·have hJ : ¬ (i : Int) < (nj : Int) := by omega
     clear hk
     go_wp2_with fail
     exact ⟨⟨j + 1, by omega, by go_num, uh HOK⟩, by simp [intOf]; omega⟩
  ·have hI : ¬ (j : Int) < (K : Int) := by omega
   clear hO HL
   go_wp2_with fail
   go_loopw [6] (fun k wk => ∃ (i : Nat), i <= m /\ k = .int .i64 (i : Int) /\ Ov w wk X) (fun k _ => m - (intOf k).toNat)
   case atStart => exact ⟨0, by omega, rfl, uh HO⟩
   case round =>
    obtain ⟨i, hi, rfl, hk⟩ := hrel
    have HOK := hide hk
    by_cases hlt2 : i < m
    ·have hJ : (i : Int) < (m : Int) := by omega
     have hJ0 : (0 : Int) <= (i : Int) := by omega
     obtain ⟨hpr, hXr⟩ := uh HPR (by omega)
     subst hpr
     have HXR := hide hXr
     obtain ⟨⟨u0, hu0⟩, hf0⟩ := hk.live _ _ (uh HR) (i * 3) (by omega)
     obtain ⟨⟨u1, hu1⟩, hf1⟩ := hk.live _ _ (uh HR) (i * 3 + 1) (by omega)
     obtain ⟨⟨u2, hu2⟩, hf2⟩ := hk.live _ _ (uh HR) (i * 3 + 2) (by omega)
     clear hk hXr
     go_wp2_with fail
     exact ⟨⟨i + 1, by omega, by go_num, (((uh HOK).set (uh HXR) _ _).set (uh HXR) _ _).set (uh HXR) _ _⟩, by simp [intOf]; omega⟩
    ·have hJ : ¬ (i : Int) < (m : Int) := by omega
     clear hk
     go_wp2_with fail
     go_end0
     exact ⟨rfl, uh HOK⟩
end Go.Proofs.YtpeohbkigkfcgaaGreatDoor
