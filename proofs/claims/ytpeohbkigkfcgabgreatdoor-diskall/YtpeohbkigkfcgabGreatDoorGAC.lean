import Derived.Test.YtpeohbkigkfcgabGreatDoorGAB
import Derived.Shelf.RegionOpenPlain
import Derived.Lib.LazyBuf
import Derived.Shelf.SlIter.Nil
import Derived.Shelf.SortM.Plain
import Derived.Shelf.SortM.SortNone
import Derived.Ground.GgzProg
import Derived.Ground.SlgmProg
import Derived.Test.YtpeohbkigkfcgabGreatDoorProg
set_option linter.unusedVariables false
set_option linter.unusedSimpArgs false
set_option maxRecDepth 100000
set_option maxHeartbeats 16000000
namespace Go.Proofs.YtpeohbkigkfcgabGreatDoor
open Go Go.Shelf Go.ChangeShapes Go.WideShapes Go.ChangeAt Go.RowKit
structure Bel (w : World) where
 W : World
 h : Below w.heap.size w W
instance (w : World) : Inhabited (Bel w) := ⟨⟨w, Below.refl _ _⟩⟩
theorem wp_region_quiet_below {id : Nat} {Q : Exit -> Act -> World -> Prop} {a : Act} {w : World} {l : List Oper} (hm : Tryz.prog.follows .mixedOrders = true) (hB : Region.lexB .any l.toArray = true)
  (h : wpQuiet Tryz.prog l.toArray (fun w' => ∃ p : Bel w, w' = p.W) (fun a' => ∀ w', (∃ p : Bel w, w' = p.W) -> Q .normal a' w') l a) : (Code.region id l.toArray true).wp Tryz.prog Q a w :=
 wp_region_quiet (C := fun w' => ∃ p : Bel w, w' = p.W) hm hB ⟨⟨w.drew, below_drewN (Below.refl _ w) 1⟩, rfl⟩ (by simpa using h)
theorem get_le_tot {A : Fs} {k : List UInt8} {x : Fl} (h : getF k A = some x) : x.bs.length <= totF A := by
 induction A with
 | nil => simp [getF] at h
 | cons a A ih =>
  unfold getF at h
  rw [List.find?_cons] at h
  have ht : totF (a :: A) = a.2.bs.length + totF A := by simp [totF]
  rw [ht]
  split at h
  ·simp only [Option.map_some, Option.some.injEq] at h
   rw [h]
   omega
  ·have := ih h
   omega
def erA (s : ByteArray) (b2 : List UInt8) (K : Dk) : Int := if erF s K = 0 /\ K.cap - (totF K.A : Int) < (b2.length : Int) then 30 else erF s K
def appA (s : ByteArray) (b2 : List UInt8) (K : Dk) : Fs := match getF s.data.toList K.A with
 | some x => putF s.data.toList ⟨x.bs ++ b2, x.sy⟩ K.A
 | none => K.A
theorem BytesAt.below {W W' : World} {u : Value} {bs : List UInt8} (h : BytesAt W u bs) (hb : Below W.heap.size W W') : BytesAt W' u bs := by
 rcases h with h | ⟨b, off, c, rfl, h⟩
 ·exact .inl h
 ·refine .inr ⟨b, off, c, rfl, fun j u hj => ?_⟩
  have h1 := h j u hj
  exact (hb.cell (p := ⟨b, off + j, none⟩) (World.block_lt_of_cell? W _ h1)).trans h1
theorem cell_top3 (w : World) (o1 o2 : Obj) (v : Value) {t : TypeId} : (((w.alloc o1).alloc o2).alloc (.cells #[v] t)).cell? ⟨w.heap.size + 1 + 1, 0, none⟩ = some v := by
 have h : ((w.alloc o1).alloc o2).heap.size = w.heap.size + 1 + 1 := by rw [World.size_alloc, World.size_alloc]
 rw [<- h]
 generalize (w.alloc o1).alloc o2 = W
 simp
theorem append_ok {w : World} {d N n : Nat} {K : Dk} {S : Nat -> Prop} {mo : Option Nat} {es : List (Lit × DataW Value)} (h : DiskIs w d N K S mo n es) (hN : N < 1000000) (hf1 : K.fuse <= 9223372036854775807) (hc : K.cap <= 1048576) (hc0 : 0 <= K.cap) (ht : totF K.A <= 1048576) (s : ByteArray) (hs : s.size <= maxLen) (pu : Option Addr) (cu : Nat) (b2 : List UInt8) (hu : BytesAt w (.slice pu b2.length cu) b2) (hus : ∀ q, (Value.slice pu b2.length cu).ownBlock = some q -> q ≠ d) :
  Calls Tryz.prog 40 #[.pointer (some ⟨d, 0, none⟩), .string s, .slice pu b2.length cu] w fun e w' => e = .returned (.int .i64 (chgK K (erA s b2 K) (appA s b2 K)).2) /\ ∃ S', DiskOK w' d (N + 1) (chgK K (erA s b2 K) (appA s b2 K)).1 S' /\ Sep w w' S S' := by
 have hdl := h.at'.lt
 have HD := hide h
 have HU := hide hu
 obtain ⟨R, hR⟩ : ∃ R, R = chgK K (erA s b2 K) (appA s b2 K) := ⟨_, rfl⟩
 rw [<- hR]
 have HR := hide hR
 have hnS : Hid (∀ q, w.heap.size <= q -> ¬ S q) := fun q hq h' => by have := h.sl q h'; omega
 clear h hR hu
 go_enter Tryz.func40, Tryz.ntmps40
 go_wp2_with fail
 have B0 : Hid (Below w.heap.size w (((w.alloc (.cells #[.pointer (some ⟨d, 0, none⟩)] 26)).alloc (.cells #[.string s] 9)).alloc (.cells #[.slice pu b2.length cu] 55))) := bal (bal (bal (Below.refl w.heap.size w) _) _) _
 refine (find_ok ((uh HD).below (uh B0)) s hs).mono ?_
 rintro e w3 ⟨⟨p, m, c, y, er, rfl, hfo⟩, hb3⟩
 have HFO := hide hfo
 have hz3 := hb3.size
 simp only [World.size_alloc] at hz3
 have k0 : w3.cell? ⟨w.heap.size, 0, none⟩ = some (.pointer (some ⟨d, 0, none⟩)) := (hb3.cell (p := ⟨w.heap.size, 0, none⟩) (by simp; omega)).trans (by rw [World.cell?_alloc_lt _ _ ⟨w.heap.size, 0, none⟩ (by simp; omega)]; simp)
 have k1 : w3.cell? ⟨w.heap.size + 1, 0, none⟩ = some (.string s) := (hb3.cell (p := ⟨w.heap.size + 1, 0, none⟩) (by simp)).trans (by rw [World.cell?_alloc_lt _ _ ⟨w.heap.size + 1, 0, none⟩ (by show w.heap.size + 1 < _; rw [World.size_alloc, World.size_alloc]; omega)]; simp)
 have k4 : w3.cell? ⟨w.heap.size + 1 + 1, 0, none⟩ = some (.slice pu b2.length cu) := (hb3.cell (p := ⟨w.heap.size + 1 + 1, 0, none⟩) (by simp)).trans (cell_top3 w _ _ _)
 have B3 : Hid (Below w.heap.size w w3) := (uh B0).trans (hb3.mono (by simp; omega))
 have HB3 := hide hb3
 clear hfo hb3
 have ka0 : Hid (∀ o, (w3.alloc o).cell? ⟨w.heap.size, 0, none⟩ = some (.pointer (some ⟨d, 0, none⟩))) := fun o => keep1 (bal (Below.refl w3.heap.size w3) o) (by omega) k0
 have ka1 : Hid (∀ o, (w3.alloc o).cell? ⟨w.heap.size + 1, 0, none⟩ = some (.string s)) := fun o => keep1 (bal (Below.refl w3.heap.size w3) o) (by omega) k1
 have ka4 : Hid (∀ o, (w3.alloc o).cell? ⟨w.heap.size + 1 + 1, 0, none⟩ = some (.slice pu b2.length cu)) := fun o => keep1 (bal (Below.refl w3.heap.size w3) o) (by omega) k4
 go_wp2_with fail
 obtain ⟨w4, hw4⟩ : ∃ w4, w4 = w3.alloc (.cells #[.slice p m c, .int .i64 y] 88) := ⟨_, rfl⟩
 have B34 : Hid (Below w3.heap.size w3 w4) := by rw [hw4]; exact bal (Below.refl _ _) _
 have B4 : Hid (Below w.heap.size w w4) := step_below (uh B3) (Nat.le_refl _) (uh B34)
 have q0 : w4.cell? ⟨w.heap.size, 0, none⟩ = some (.pointer (some ⟨d, 0, none⟩)) := by rw [hw4]; exact uh ka0 _
 have q1 : Hid (w4.cell? ⟨w.heap.size + 1, 0, none⟩ = some (.string s)) := by rw [hw4]; exact uh ka1 _
 have q2 : Hid (w4.cell? ⟨w3.heap.size, 0, none⟩ = some (.slice p m c)) := by rw [hw4]; show _ = _; simp
 have q3 : Hid (w4.cell? ⟨w3.heap.size, 1, none⟩ = some (.int .i64 y)) := by rw [hw4]; show _ = _; simp
 have q4 : w4.cell? ⟨w.heap.size + 1 + 1, 0, none⟩ = some (.slice pu b2.length cu) := by rw [hw4]; exact uh ka4 _
 have hz4 : w4.heap.size = w3.heap.size + 1 := by rw [hw4]; simp
 rw [<- hw4]
 clear hw4 ka0 ka1 ka4 k0 k1 k4
 have p0 : ∀ P : Bel w4, P.W.cell? ⟨w.heap.size, 0, none⟩ = some (.pointer (some ⟨d, 0, none⟩)) := fun P => keep1 P.h (by omega) q0
 have p4 : ∀ P : Bel w4, P.W.cell? ⟨w.heap.size + 1 + 1, 0, none⟩ = some (.slice pu b2.length cu) := fun P => keep1 P.h (by omega) q4
 have HF : Hid (∀ P : Bel w4, Calls Tryz.prog 45 #[.pointer (some ⟨d, 0, none⟩)] P.W fun e w'' => e = .returned (.int .i64 (K.cap - (totF K.A : Int))) /\ ∃ q : Bel w4, w'' = q.W) := fun P =>
  (free_ok ((uh HD).below ((uh B4).trans (P.h.mono (by omega)))) hc hc0 ht).mono (fun e w' ⟨h1, h2⟩ => ⟨h1, ⟨w', P.h.trans (h2.mono P.h.size)⟩, rfl⟩)
 have HX : Hid (∀ (P : Bel w4) (e0 : Int), e0 = erA s b2 K -> Calls Tryz.prog 143 #[.pointer (some ⟨d, 0, none⟩), .int .i64 e0, .func (.func 148) #[] #[.pointer (some ⟨w.heap.size, 0, none⟩), .pointer (some ⟨w.heap.size + 1, 0, none⟩), .pointer (some ⟨w3.heap.size, 0, none⟩), .pointer (some ⟨w.heap.size + 1 + 1, 0, none⟩)]] P.W fun e w' => e = .returned (.int .i64 R.2) /\ ∃ S', DiskOK w' d (N + 1) R.1 S' /\ Sep w w' S S') := by
  rintro ⟨w5, hb5⟩ e0 rfl
  have B5 : Below w.heap.size w w5 := (uh B4).trans (hb5.mono (by omega))
  refine (change_ok ((uh HD).below B5) hf1 (erA s b2 K) (appA s b2 K) 148 _ (enters_of Tryz.func148 (by kernel_rfl) rfl) ?hdo).mono ?fin
  case hdo =>
   rintro hdn he0 hf0 w1 z hor hD1
   have he1 : erF s K = 0 /\ (b2.length : Int) <= K.cap - (totF K.A : Int) := by
    unfold erA at he0
    split at he0
    ·omega
    ·rename_i hno
     exact ⟨he0, by omega⟩
   obtain ⟨x, hh⟩ := (uh HFO).2.2 ((uh HFO).1.trans he1.1)
   have hown := hh.own ((uh HD).below (uh B0))
   have hrow5 := own_below (own_below (own_below hh.row (uh HB3)) (uh B34)) hb5
   have hA : appA s b2 K = putF s.data.toList ⟨x.bs ++ b2, x.sy⟩ K.A := by unfold appA; rw [hh.get]
   have hml := hh.len
   have hsy := hh.syn
   have hget := hh.get
   have hmem := hh.mem
   clear hh
   subst hml hsy
   rw [hA]
   have hxl := get_le_tot hget
   have hu1 : BytesAt w1 (.slice pu b2.length cu) b2 := by
    refine ((uh HU).below B5).far (fun q hq => ?_)
    rcases hor with rfl | rfl
    ·rfl
    ·exact Below.heap_setCell _ ⟨d, 2, none⟩ _ q (hus q hq)
   exact append_do s hs p c w.heap.size (w.heap.size + 1) w3.heap.size (w.heap.size + 1 + 1) hD1 hN x ⟨hget, rfl, rfl, hmem, rows_or hor hrow5 (fun q hq => (hown q hq).2.1)⟩ _ b2 hu1 (by omega) ((cells_or hor _ (by show w.heap.size ≠ d; omega)).trans (keep1 hb5 (by omega) q0)) ((cells_or hor _ (by show w.heap.size + 1 ≠ d; omega)).trans (keep1 hb5 (by omega) (uh q1))) ((cells_or hor _ (by show w3.heap.size ≠ d; omega)).trans (keep1 hb5 (by omega) (uh q2))) ((cells_or hor _ (by show w3.heap.size ≠ d; omega)).trans (keep1 hb5 (by omega) (uh q3))) ((cells_or hor _ (by show w.heap.size + 1 + 1 ≠ d; omega)).trans (keep1 hb5 (by omega) q4)) (uh hnS _ (by omega)) (uh hnS _ (by omega)) (uh hnS _ (by omega)) (uh hnS _ (by omega))
  case fin =>
   rintro e w6 ⟨rfl, S', hok, hsep⟩
   rw [<- uh HR] at hok ⊢
   exact ⟨rfl, S', hok, (Sep.of_below S B5).trans hsep⟩
 have HER := hide (uh HFO).1
 clear hus
 by_cases h0 : er = 0
 ·subst h0
  obtain ⟨X, hX⟩ : ∃ X : Int, X = K.cap - (totF K.A : Int) := ⟨_, rfl⟩
  rw [<- hX] at HF
  have HXX := hide hX
  clear hX
  by_cases hfull : X < (b2.length : Int)
  ·have hd1 : decide (X < (b2.length : Int)) = true := decide_eq_true hfull
   refine wp_region_quiet_below (by kernel_rfl) (by kernel_rfl) ?_
   repeat (quiet_step (first | (go_at_call 45; refine uh HF _)))
   refine wpQuiet_nil ?_
   rintro _ ⟨P, rfl⟩
   go_wp2_with (first | (go_at_call 143; refine (uh HX P _ (by unfold erA; rw [if_pos ⟨(uh HER).symm, by rw [<- uh HXX]; exact hfull⟩])).mono ?_; rintro e w5 ⟨rfl, hres⟩; have HRES := hide hres; clear hres))
   go_ret
   exact ⟨rfl, uh HRES⟩
  ·have hd1 : decide (X < (b2.length : Int)) = false := decide_eq_false hfull
   refine wp_region_quiet_below (by kernel_rfl) (by kernel_rfl) ?_
   repeat (quiet_step (first | (go_at_call 45; refine uh HF _)))
   refine wpQuiet_nil ?_
   rintro _ ⟨P, rfl⟩
   go_wp2_with (first | (go_at_call 143; refine (uh HX P _ (by unfold erA; rw [if_neg (fun h' => hfull (by rw [uh HXX]; exact h'.2)), <- uh HER])).mono ?_; rintro e w5 ⟨rfl, hres⟩; have HRES := hide hres; clear hres))
   go_ret
   exact ⟨rfl, uh HRES⟩
 ·have hne : decide (er = 0) = false := decide_eq_false h0
  have hbe : (er == 0) = false := by simpa using h0
  refine wp_region_quiet_below (by kernel_rfl) (by kernel_rfl) ?_
  repeat (quiet_step (first | (go_at_call 45; refine uh HF _)))
  refine wpQuiet_nil ?_
  rintro _ ⟨P, rfl⟩
  go_wp2_with (first | (go_at_call 143; refine (uh HX P _ (by unfold erA; rw [if_neg (fun h' => h0 ((uh HER).trans h'.1)), <- uh HER])).mono ?_; rintro e w5 ⟨rfl, hres⟩; have HRES := hide hres; clear hres))
  go_ret
  exact ⟨rfl, uh HRES⟩
def canBe (lo x : Int) : Bool := decide (lo <= x) && decide (x <= 1048576)
theorem capacity_ok (x : Int) (w : World) : Calls Tryz.prog 142 #[.int .i64 x] w fun e w' => e = .returned (.bool (canBe 0 x)) /\ w' = w := by
 unfold canBe
 by_cases h1 : 0 <= x <;> by_cases h2 : x <= 1048576
 all_goals
  first | rw [decide_eq_true h1] | rw [decide_eq_false h1]
  first | rw [decide_eq_true h2] | rw [decide_eq_false h2]
  go_enter Tryz.func142, Tryz.ntmps142
  go_wp2
  go_ret
  exact ⟨rfl, rfl⟩
theorem fuseCan_ok (x : Int) (w : World) : Calls Tryz.prog 210 #[.int .i64 x] w fun e w' => e = .returned (.bool (canBe (-1) x)) /\ w' = w := by
 unfold canBe
 by_cases h1 : -1 <= x <;> by_cases h2 : x <= 1048576
 all_goals
  first | rw [decide_eq_true h1] | rw [decide_eq_false h1]
  first | rw [decide_eq_true h2] | rw [decide_eq_false h2]
  go_enter Tryz.func210, Tryz.ntmps210
  go_wp2
  go_ret
  exact ⟨rfl, rfl⟩
theorem new_is (x : Int) (w : World) (f : Int) (b : Bool) : DiskIs (w.alloc (.cells #[.int .i64 x, .map none, .int .i64 f, .bool b] 85)) w.heap.size 0 ⟨x, [], f, b⟩ (fun q => q = w.heap.size) none 0 [] :=
 ⟨⟨by simp, by simp, by simp, by simp, .inl ⟨rfl, rfl⟩⟩, ⟨.nil, .nil⟩, Nat.le_refl _, fun b hb => (by cases hb), fun e he => (by cases he), fun e he => (by cases he), fun j => by simp, rfl, fun q hq => by subst hq; simp⟩
theorem new_ok (x : Int) (hx : canBe 0 x = true) (w : World) : Calls Tryz.prog 37 #[.int .i64 x] w fun e w' => e = .returned (.tuple #[.pointer (some ⟨w.heap.size, 0, none⟩), .int .i64 0]) /\ DiskOK w' w.heap.size 0 ⟨x, [], -1, false⟩ (fun q => q = w.heap.size) /\ Below w.heap.size w w' := by
 go_enter Tryz.func37, Tryz.ntmps37
 go_wp2_with (first | (go_at_call 142; refine (capacity_ok x _).mono ?_; rintro e w' ⟨rfl, hw⟩; rw [hw, hx]; clear hw w'))
 go_ret2
 refine ⟨rfl, ⟨none, 0, [], new_is x w (-1) false⟩, (Below.refl _ w).alloc (Nat.le_refl _) _⟩
def fuseK (K : Dk) (x : Int) : Dk × Int := if canBe (-1) x = false then (K, 1) else if K.down = true then (K, 34) else ({ K with fuse := x }, 0)
theorem fuse_ok {w : World} {d N n : Nat} {K : Dk} {S : Nat -> Prop} {mo : Option Nat} {es : List (Lit × DataW Value)} (h : DiskIs w d N K S mo n es) (x : Int) :
  Calls Tryz.prog 105 #[.pointer (some ⟨d, 0, none⟩), .int .i64 x] w fun e w' => e = .returned (.int .i64 (fuseK K x).2) /\ DiskOK w' d N (fuseK K x).1 S /\ Sep w w' S S := by
 have c3 := h.at'.c3
 have c2 := h.at'.c2
 have f2 := h.fz 2
 have HD := hide h
 have HSD := hide h.sd
 clear h
 cases hx : canBe (-1) x with
 | false =>
  have hk : fuseK K x = (K, 1) := by unfold fuseK; rw [if_pos hx]
  rw [hk]
  go_enter Tryz.func105, Tryz.ntmps105
  go_wp2_with (first | (go_at_call 210; refine (fuseCan_ok x _).mono ?_; rintro e w' ⟨rfl, hw⟩; rw [hw, hx]; clear hw w'))
  go_ret
  exact ⟨rfl, ⟨mo, n, es, uh HD⟩, Sep.refl _ _⟩
 | true =>
  cases hd : K.down with
  | true =>
   have hk : fuseK K x = (K, 34) := by unfold fuseK; rw [if_neg (by rw [hx]; simp), if_pos hd]
   rw [hk]
   rw [hd] at c3
   go_enter Tryz.func105, Tryz.ntmps105
   go_wp2_with (first | (go_at_call 210; refine (fuseCan_ok x _).mono ?_; rintro e w' ⟨rfl, hw⟩; rw [hw, hx]; clear hw w'))
   go_ret
   exact ⟨rfl, ⟨mo, n, es, uh HD⟩, Sep.refl _ _⟩
  | false =>
   have hk : fuseK K x = ({ K with fuse := x }, 0) := by unfold fuseK; rw [if_neg (by rw [hx]; simp), if_neg (by rw [hd]; simp)]
   rw [hk]
   rw [hd] at c3
   go_enter Tryz.func105, Tryz.ntmps105
   go_wp2_with (first | (go_at_call 210; refine (fuseCan_ok x _).mono ?_; rintro e w' ⟨rfl, hw⟩; rw [hw, hx]; clear hw w'))
   go_ret
   exact ⟨rfl, ⟨mo, n, es, (uh HD).fuse x⟩, Sep.cell w S d 2 _ (uh HSD)⟩
def sizeK (s : ByteArray) (K : Dk) : Int × Int := if K.down = true then (0, 34) else (if erF s K = 0 then (lenF K.A s.data.toList : Int) else 0, erF s K)
theorem look_ok {w : World} {d N n : Nat} {K : Dk} {S : Nat -> Prop} {mo : Option Nat} {es : List (Lit × DataW Value)} (h : DiskIs w d N K S mo n es) (s : ByteArray) (hs : s.size <= maxLen) :
  Calls Tryz.prog 150 #[.pointer (some ⟨d, 0, none⟩), .string s] w fun e w' => (∃ p m c y er, e = .returned (.tuple #[.agg #[.slice p m c, .int .i64 y], .int .i64 er]) /\ (m : Int) = (sizeK s K).1 /\ er = (sizeK s K).2) /\ Below w.heap.size w w' := by
 have c3 := h.at'.c3
 have hdl := h.at'.lt
 have HD := hide h
 clear h
 cases hd : K.down with
 | true =>
  rw [hd] at c3
  have hk : sizeK s K = (0, 34) := by unfold sizeK; rw [if_pos hd]
  rw [hk]
  go_enter Tryz.func150, Tryz.ntmps150
  go_wp2_with fail
  refine bodyPost_ret (ret_file (b := w.heap.size) (p := none) (n := 0) (c := 0) (y := 0) (er := .int .i64 34) (by go_simp) (by go_simp) rfl rfl) rfl ?_
  exact ⟨⟨none, 0, 0, 0, 34, rfl, rfl, rfl⟩, bal (Below.refl w.heap.size w) _⟩
 | false =>
  rw [hd] at c3
  obtain ⟨R, hR⟩ : ∃ R, R = sizeK s K := ⟨_, rfl⟩
  have hk : R = (if erF s K = 0 then (lenF K.A s.data.toList : Int) else 0, erF s K) := by rw [hR]; unfold sizeK; rw [if_neg (by rw [hd]; simp)]
  rw [<- hR]
  have HK := hide hk
  clear hk hR
  have B0 : Hid (Below w.heap.size w (w.alloc (.cells #[.slice none 0 0, .int .i64 0] 88))) := bal (Below.refl w.heap.size w) _
  go_enter Tryz.func150, Tryz.ntmps150
  go_wp2_with fail
  refine (find_ok ((uh HD).below (uh B0)) s hs).mono ?_
  rintro e w1 ⟨⟨p, m, c, y, er, rfl, hfo⟩, hb1⟩
  have hm : Hid ((m : Int) = R.1 /\ er = R.2) := by
   rw [uh HK]
   refine ⟨?_, hfo.1⟩
   by_cases he : erF s K = 0
   ·obtain ⟨x, hh⟩ := hfo.2.2 (hfo.1.trans he)
    rw [if_pos he, hh.len]
    simp [lenF, hh.get]
   ·have := hfo.2.1 (by rw [hfo.1]; exact he)
    rw [if_neg he, this.2.1]
    rfl
  have c0 : w1.cell? ⟨w.heap.size, 0, none⟩ = some (.slice none 0 0) := (hb1.cell (p := ⟨w.heap.size, 0, none⟩) (by simp)).trans (by simp)
  have c1 : w1.cell? ⟨w.heap.size, 1, none⟩ = some (.int .i64 0) := (hb1.cell (p := ⟨w.heap.size, 1, none⟩) (by simp)).trans (by simp)
  have f0 : w1.frozen? ⟨w.heap.size, 0, none⟩ = false := (hb1.frozen (p := ⟨w.heap.size, 0, none⟩) (by simp)).trans (by simp)
  have f1 : w1.frozen? ⟨w.heap.size, 1, none⟩ = false := (hb1.frozen (p := ⟨w.heap.size, 1, none⟩) (by simp)).trans (by simp)
  have B1 : Hid (Below w.heap.size w w1) := (uh B0).trans (hb1.mono (by simp))
  clear hfo hb1
  go_wp2_with fail
  refine bodyPost_ret (ret_file (b := w.heap.size) (p := p) (n := m) (c := c) (y := y) (er := .int .i64 er) (by go_simp) (by go_simp) rfl rfl) rfl ?_
  exact ⟨⟨p, m, c, y, er, rfl, (uh hm).1, (uh hm).2⟩, ((uh B1).setCell (p := ⟨w.heap.size, 0, none⟩) (Nat.le_refl _) _).setCell (p := ⟨w.heap.size, 1, none⟩) (Nat.le_refl _) _⟩
theorem size_ok {w : World} {d N n : Nat} {K : Dk} {S : Nat -> Prop} {mo : Option Nat} {es : List (Lit × DataW Value)} (h : DiskIs w d N K S mo n es) (s : ByteArray) (hs : s.size <= maxLen) :
  Calls Tryz.prog 113 #[.pointer (some ⟨d, 0, none⟩), .string s] w fun e w' => e = .returned (.tuple #[.int .i64 (sizeK s K).1, .int .i64 (sizeK s K).2]) /\ Below w.heap.size w w' := by
 have HD := hide h
 obtain ⟨R, hR⟩ : ∃ R, R = sizeK s K := ⟨_, rfl⟩
 have HR := hide hR
 rw [<- hR]
 clear h hR
 go_enter Tryz.func113, Tryz.ntmps113
 go_wp2_with fail
 refine (look_ok (uh HD) s hs).mono ?_
 rintro e w1 ⟨⟨p, m, c, y, er, rfl, h1, h2⟩, hb1⟩
 rw [<- uh HR] at h1 h2
 have H1 := hide h1; have H2 := hide h2; have HB := hide hb1
 clear h1 h2 hb1
 go_wp2_with fail
 go_ret2
 refine ⟨?_, (uh HB).alloc (uh HB).size _⟩
 rw [<- uh H1, <- uh H2]
 try rfl
end Go.Proofs.YtpeohbkigkfcgabGreatDoor
namespace Go.Proofs.YtpeohbkigkfcgabGreatDoor
open Go Go.Shelf Go.ChangeShapes Go.WideShapes Go.ChangeAt Go.RowKit Go.Sort
def OrdF (A : Fs) : Prop := A.Pairwise fun x y => bytesBefore x.1 y.1 = true
theorem mem_insF {x y : List UInt8 × Fl} : ∀ {A : Fs}, y ∈ insF x A ↔ y = x \/ y ∈ A
 | [] => by simp [insF]
 | a :: A => by
  unfold insF
  split
  ·simp
  ·simp only [List.mem_cons, mem_insF (A := A)]
   constructor
   ·rintro (h | h | h)
    ·exact .inr (.inl h)
    ·exact .inl h
    ·exact .inr (.inr h)
   ·rintro (h | h | h)
    ·exact .inr (.inl h)
    ·exact .inl h
    ·exact .inr (.inr h)
theorem ord_ins {x : List UInt8 × Fl} : ∀ {A : Fs}, OrdF A -> (∀ y ∈ A, y.1 ≠ x.1) -> OrdF (insF x A)
 | [], _, _ => by simp [insF, OrdF]
 | a :: A, h, hn => by
  unfold OrdF at h
  rw [List.pairwise_cons] at h
  unfold insF
  split
  ·rename_i hb
   have hb' : bytesBefore x.1 a.1 = true := hb
   refine List.pairwise_cons.2 ⟨fun y hy => ?_, List.pairwise_cons.2 h⟩
   rcases List.mem_cons.1 hy with rfl | hy
   ·exact hb'
   ·exact bytes_trans _ _ _ hb' (h.1 y hy)
  ·rename_i hb
   have hb' : bytesBefore a.1 x.1 = true := by
    rcases Go.WideAt.bytes_total a.1 x.1 (hn a (by simp)) with h' | h'
    ·exact h'
    ·exact absurd h' hb
   refine List.pairwise_cons.2 ⟨fun y hy => ?_, ord_ins h.2 (fun y hy => hn y (by simp [hy]))⟩
   rcases mem_insF.1 hy with rfl | hy
   ·exact hb'
   ·exact h.1 y hy
theorem mem_delF {k : List UInt8} {A : Fs} {y : List UInt8 × Fl} : y ∈ delF k A ↔ y ∈ A /\ y.1 ≠ k := by
 unfold delF
 rw [List.mem_filter]
 simp
theorem ord_del {A : Fs} (h : OrdF A) (k : List UInt8) : OrdF (delF k A) := List.Pairwise.filter _ h
theorem ord_put {A : Fs} (h : OrdF A) (k : List UInt8) (x : Fl) : OrdF (putF k x A) := ord_ins (ord_del h k) (fun y hy => (mem_delF.1 hy).2)
theorem mem_putF {k : List UInt8} {x : Fl} {A : Fs} {y : List UInt8 × Fl} : y ∈ putF k x A ↔ y = (k, x) \/ (y ∈ A /\ y.1 ≠ k) := by
 unfold putF
 rw [mem_insF, mem_delF]
theorem tot_ins (x : List UInt8 × Fl) : ∀ A : Fs, totF (insF x A) = x.2.bs.length + totF A
 | [] => by simp [insF, totF]
 | a :: A => by
  unfold insF
  split
  ·simp [totF]
  ·have := tot_ins x A
   simp only [totF, List.map_cons, List.sum_cons] at this ⊢
   omega
theorem len_ins (x : List UInt8 × Fl) : ∀ A : Fs, (insF x A).length = A.length + 1
 | [] => rfl
 | a :: A => by
  unfold insF
  split
  ·simp
  ·simp [len_ins x A]
theorem tot_del_le (k : List UInt8) : ∀ A : Fs, totF (delF k A) <= totF A
 | [] => by simp [delF, totF]
 | a :: A => by
  have := tot_del_le k A
  unfold delF at this ⊢
  rw [List.filter_cons]
  split <;> simp only [totF, List.map_cons, List.sum_cons] at this ⊢ <;> omega
theorem len_del_le (k : List UInt8) (A : Fs) : (delF k A).length <= A.length := List.length_filter_le _ _
theorem del_none {k : List UInt8} {A : Fs} (h : getF k A = none) : delF k A = A := by
 unfold delF
 refine List.filter_eq_self.2 (fun a ha => ?_)
 unfold getF at h
 rw [Option.map_eq_none_iff, List.find?_eq_none] at h
 have := h a ha
 simp only [beq_iff_eq] at this
 simp [this]
theorem del_some {k : List UInt8} {x : Fl} : ∀ {A : Fs}, getF k A = some x -> totF (delF k A) + x.bs.length <= totF A /\ (delF k A).length + 1 <= A.length
 | [], h => by simp [getF] at h
 | a :: A, h => by
  unfold getF at h
  rw [List.find?_cons] at h
  have ht : totF (a :: A) = a.2.bs.length + totF A := by simp [totF]
  split at h
  ·rename_i hk
   simp only [Option.map_some, Option.some.injEq] at h
   have hd : delF k (a :: A) = delF k A := by
    unfold delF
    rw [List.filter_cons, hk]
    rfl
   rw [hd, ht, <- h, List.length_cons]
   have := tot_del_le k A
   have := len_del_le k A
   omega
  ·rename_i hk
   have hd : delF k (a :: A) = a :: delF k A := by
    unfold delF
    rw [List.filter_cons, hk]
    rfl
   have h' := del_some (A := A) h
   have ht' : totF (a :: delF k A) = a.2.bs.length + totF (delF k A) := by simp [totF]
   rw [hd, ht, ht', List.length_cons, List.length_cons]
   omega
theorem get_mem {k : List UInt8} {x : Fl} {A : Fs} (h : getF k A = some x) : (k, x) ∈ A := by
 unfold getF at h
 obtain ⟨p, hp, rfl⟩ := Option.map_eq_some_iff.1 h
 have h1 := List.mem_of_find?_eq_some hp
 have h2 := List.find?_some hp
 simp only [beq_iff_eq] at h2
 rw [<- h2]
 exact h1
theorem bytes_lt : ∀ {a b : List UInt8}, bytesBefore a b = true -> a < b
 | [], [], h => by simp [bytesBefore] at h
 | [], b :: bs, _ => List.nil_lt_cons ..
 | a :: r, [], h => by simp [bytesBefore] at h
 | a :: r, b :: bs, h => by
  simp only [bytesBefore, Bool.or_eq_true, decide_eq_true_eq, Bool.and_eq_true, beq_iff_eq] at h
  rw [List.cons_lt_cons_iff]
  rcases h with h | ⟨h1, h2⟩
  ·exact .inl h
  ·exact .inr ⟨h1, bytes_lt h2⟩
theorem names_sorted {A : Fs} (h : OrdF A) {ss : List (List UInt8)} (hp : ss.Perm (A.map (·.1))) : ss.mergeSort leB = A.map (·.1) := by
 rw [mergeSort_of_perm hp]
 refine List.mergeSort_of_pairwise (List.pairwise_map.2 (h.imp fun {x y} hxy => ?_))
 have := bytes_lt hxy
 show decide (x.1 <= y.1) = true
 rw [decide_eq_true_eq]
 exact List.le_of_lt this
structure Inv (K : Dk) : Prop where
 ord : OrdF K.A
 nm : ∀ p ∈ K.A, nameS ⟨p.1.toArray⟩ = true
 sy : ∀ p ∈ K.A, p.2.sy <= p.2.bs.length
 tot : (totF K.A : Int) <= K.cap
 cap1 : K.cap <= 1048576
 fu0 : -1 <= K.fuse
 fu1 : K.fuse <= 1048576
 many : K.A.length <= 64
theorem Inv.new {x f : Int} {b : Bool} (h : canBe 0 x = true) (hf : canBe (-1) f = true) : Inv ⟨x, [], f, b⟩ := by
 simp only [canBe, Bool.and_eq_true, decide_eq_true_eq] at h hf
 exact ⟨List.Pairwise.nil, fun p hp => (by cases hp), fun p hp => (by cases hp), by simp [totF]; exact h.1, h.2, hf.1, hf.2, by simp⟩
theorem Inv.chg {K : Dk} (h : Inv K) (er : Int) (A' : Fs) (hA : er = 0 -> Inv { K with A := A' }) : Inv (chgK K er A').1 := by
 have h0 := h.fu0
 have h1 := h.fu1
 unfold chgK
 split
 ·exact h
 ·split
  ·exact h
  ·rename_i he
   have he : er = 0 := by omega
   have h2 := hA he
   split
   ·exact ⟨h.ord, h.nm, h.sy, h.tot, h.cap1, by simp, by simp, h.many⟩
   ·refine ⟨h2.ord, h2.nm, h2.sy, h2.tot, h2.cap1, ?_, ?_, h2.many⟩
    ·show -1 <= (if 0 < K.fuse then K.fuse - 1 else K.fuse)
     split <;> omega
    ·show (if 0 < K.fuse then K.fuse - 1 else K.fuse) <= 1048576
     split <;> omega
theorem erF_zero {s : ByteArray} {K : Dk} (h : erF s K = 0) : nameS s = true /\ ∃ x, getF s.data.toList K.A = some x := by
 unfold erF at h
 split at h
 ·omega
 ·rename_i h1
  split at h
  ·rename_i h2
   exact ⟨by simpa using h1, Option.isSome_iff_exists.1 h2⟩
  ·omega
theorem Inv.put {K : Dk} (h : Inv K) (A : Fs) (hA : ∀ y ∈ A, y ∈ K.A) (hO : OrdF A) (s : ByteArray) (x : Fl) (hs : nameS s = true) (hx : x.sy <= x.bs.length) (ht : (totF (delF s.data.toList A) : Int) + x.bs.length <= K.cap) (hm : (delF s.data.toList A).length + 1 <= 64) : Inv { K with A := putF s.data.toList x A } := by
 refine ⟨ord_put hO _ _, fun p hp => ?_, fun p hp => ?_, ?_, h.cap1, h.fu0, h.fu1, ?_⟩
 ·rcases mem_putF.1 hp with rfl | ⟨hp, _⟩
  ·exact hs
  ·exact h.nm p (hA p hp)
 ·rcases mem_putF.1 hp with rfl | ⟨hp, _⟩
  ·exact hx
  ·exact h.sy p (hA p hp)
 ·show (totF (insF _ _) : Int) <= K.cap
  rw [tot_ins]
  show ((x.bs.length + _ : Nat) : Int) <= _
  omega
 ·show (insF _ _).length <= 64
  rw [len_ins]
  omega
theorem Inv.sync {K : Dk} (h : Inv K) (s : ByteArray) : Inv (chgK K (erF s K) (syncA s K)).1 := h.chg _ _ fun he => by
 obtain ⟨hn, x, hx⟩ := erF_zero he
 have hd := del_some hx
 have ht := h.tot
 have hm := h.many
 unfold syncA
 rw [hx]
 exact h.put K.A (fun _ h => h) h.ord s ⟨x.bs, x.bs.length⟩ hn (Nat.le_refl _) (by show _ + (x.bs.length : Int) <= _; omega) (by omega)
theorem Inv.create {K : Dk} (h : Inv K) (s : ByteArray) : Inv (chgK K (whyK s K) (newA s K)).1 := h.chg _ _ fun he => by
 unfold whyK at he
 split at he
 ·omega
 ·rename_i h1
  split at he
  ·omega
  ·rename_i h2
   split at he
   ·omega
   ·rename_i h3
    have hg : getF s.data.toList K.A = none := by simpa using h2
    have ht := h.tot
    unfold newA
    refine h.put K.A (fun _ h => h) h.ord s ⟨[], 0⟩ (by simpa using h1) (Nat.le_refl _) ?_ ?_ <;> rw [del_none hg]
    ·simpa using ht
    ·omega
theorem Inv.append {K : Dk} (h : Inv K) (s : ByteArray) (b2 : List UInt8) : Inv (chgK K (erA s b2 K) (appA s b2 K)).1 := h.chg _ _ fun he => by
 unfold erA at he
 split at he
 ·omega
 ·rename_i hno
  obtain ⟨hn, x, hx⟩ := erF_zero he
  have hd := del_some hx
  have ht := h.tot
  have hm := h.many
  have hsy := h.sy _ (get_mem hx)
  unfold appA
  rw [hx]
  have hroom : (b2.length : Int) <= K.cap - (totF K.A : Int) := by
   refine Int.not_lt.1 (fun h' => hno ⟨he, h'⟩)
  refine h.put K.A (fun _ h => h) h.ord s ⟨x.bs ++ b2, x.sy⟩ hn ?_ ?_ (by omega)
  ·show x.sy <= (x.bs ++ b2).length
   rw [List.length_append]
   have : x.sy <= x.bs.length := hsy
   omega
  ·show _ + ((x.bs ++ b2).length : Int) <= _
   rw [List.length_append]
   omega
theorem Inv.remove {K : Dk} (h : Inv K) (s : ByteArray) : Inv (chgK K (erF s K) (delF s.data.toList K.A)).1 := h.chg _ _ fun he => by
 have h1 := tot_del_le s.data.toList K.A
 have h2 := len_del_le s.data.toList K.A
 have ht := h.tot
 have hm := h.many
 exact ⟨ord_del h.ord _, fun p hp => h.nm p (mem_delF.1 hp).1, fun p hp => h.sy p (mem_delF.1 hp).1, by show (totF (delF _ _) : Int) <= K.cap; omega, h.cap1, h.fu0, h.fu1, by show (delF _ _).length <= _; omega⟩
theorem Inv.rename {K : Dk} (h : Inv K) (s t : ByteArray) : Inv (chgK K (erR s t K) (renA s t K)).1 := h.chg _ _ fun he => by
 unfold erR at he
 split at he
 ·omega
 ·rename_i h1
  obtain ⟨hn, x, hx⟩ := erF_zero he
  have hd := del_some hx
  have h2 := tot_del_le t.data.toList (delF s.data.toList K.A)
  have h3 := len_del_le t.data.toList (delF s.data.toList K.A)
  have ht := h.tot
  have hm := h.many
  unfold renA
  rw [hx]
  exact h.put (delF s.data.toList K.A) (fun y hy => (mem_delF.1 hy).1) (ord_del h.ord _) t x (by simpa using h1) (h.sy _ (get_mem hx)) (by omega) (by omega)
end Go.Proofs.YtpeohbkigkfcgabGreatDoor
namespace Go.Proofs.YtpeohbkigkfcgabGreatDoor
open Go Go.Shelf Go.ChangeShapes Go.WideShapes Go.ChangeAt Go.RowKit
theorem row_up {w : World} {B B' : Nat} {v : Value} {e s n : Nat} {xs : List Value} (h : w.ownsRow B e s v n xs) (hq : ∀ q, v.ownBlock = some q -> B' <= q) : w.ownsRow B' e s v n xs := by
 refine ⟨h.1, ?_⟩
 rcases h.2 with h1 | ⟨g, cap, cur, rfl, hb, rest⟩
 ·exact .inl h1
 ·exact .inr ⟨g, cap, cur, rfl, hq g rfl, rest⟩
theorem wpList_append_b {w : World} {ops : Array Oper} {rest : List Oper} {o : Oper} {a : Act} {Q : Exit -> Act -> World -> Prop} (hgd : o.guard = none) (s x : Operand)
  (ho : o.op = .call { callee := .builtin .append, args := #[s, x], argTypes := #[55, 55] })
  (v : Value) (bs : List UInt8) (hs : a.eval s = v) (hown : w.ownsRow 0 5 1 v bs.length (bcs bs)) (u : Value) (b2 : List UInt8) (hx : a.eval x = u) (hu : BytesAt w u b2) (hb : bs.length + b2.length <= 140737488351232) (b3 : List UInt8) (hb3 : b3 = bs ++ b2)
  (h : ∀ p c w', w'.ownsRow 0 5 1 (.slice p b3.length c) b3.length (bcs b3) -> w'.ownsRow 0 5 1 v bs.length (bcs bs) -> (((Value.slice p b3.length c).ownBlock = v.ownBlock /\ w.grownBy w' v.ownBlock) \/ ((Value.slice p b3.length c).ownBlock = some w.heap.size /\ w.grownBy w' none)) -> wpList Tryz.prog ops Q rest (a.put o.dst (.slice p b3.length c)) w') :
  wpList Tryz.prog ops Q (o :: rest) a w := by
 subst hb3
 refine wpList_plain hgd fun K hK => ?_
 obtain ⟨p, c, w', hr, h2, h3, h4⟩ := run_append_b w o.type v bs hown u b2 hu hb
 unfold Oper.wp execOp
 simp only [ho, resolve, invoke, builtin, Sem.run_bind, Sem.run_pure, Result.andThen_ok, List.map_toArray, List.map_cons, List.map_nil, hs, hx, hr]
 exact hK _ _ (h p c w' h2 h3 h4)
theorem row_none (w : World) : (w.alloc (.cells #[] 5)).ownsRow 0 5 1 (.slice (some ⟨w.heap.size, 0, none⟩) 0 0) ([] : List UInt8).length (bcs []) :=
 ⟨rfl, .inr ⟨w.heap.size, 0, #[], rfl, Nat.zero_le _, heap_alloc_new w _, Nat.le_refl _, by unfold maxLen; omega, rfl, rfl⟩⟩
theorem clone_ok {w : World} (pu : Option Addr) (cu : Nat) (b2 : List UInt8) (hu : BytesAt w (.slice pu b2.length cu) b2) (hl : b2.length <= 1048576) :
  Calls Tryz.prog 48 #[.slice pu b2.length cu] w fun e w' => (∃ p c, e = .returned (.slice p b2.length c) /\ w'.ownsRow w.heap.size 5 1 (.slice p b2.length c) b2.length (bcs b2)) /\ Below w.heap.size w w' := by
 cases hp : pu with
 | none =>
  subst hp
  have hb2 : b2 = [] /\ cu = 0 := by
   rcases hu with ⟨h1, h2⟩ | ⟨b, off, c, h1, _⟩
   ·injection h1 with _ _ h3
    exact ⟨h2, h3⟩
   ·cases h1
  obtain ⟨rfl, rfl⟩ := hb2
  clear hu
  have hq : ∀ W : World, (binOp .eql 55 (.slice none 0 0) (.slice none 0 0)).run Tryz.prog W = .ok (.bool true) W := fun W => run_eql_slice_nil W 55 5 none 0 0 Tryz.underlying55
  go_enter Tryz.func48, Tryz.ntmps48
  go_wp2_with fail
  go_ret
  exact ⟨⟨none, 0, rfl, World.ownsRow_nil _ _ _ _⟩, Below.refl _ _⟩
 | some ad =>
  subst hp
  have HU := hide hu
  clear hu
  have hq : ∀ W : World, (binOp .eql 55 (.slice (some ad) b2.length cu) (.slice none 0 0)).run Tryz.prog W = .ok (.bool false) W := fun W => run_eql_slice_nil W 55 5 (some ad) b2.length cu Tryz.underlying55
  go_enter Tryz.func48, Tryz.ntmps48
  go_wp2_with (first | (at_builtin; refine wpList_append_b rfl _ _ rfl (.slice (some ⟨w.heap.size, 0, none⟩) 0 0) [] rfl (row_none w) _ b2 rfl ((uh HU).below (bal (Below.refl w.heap.size w) _)) (by simp; omega) b2 rfl ?_; intro p c w5 r1 r2 hg; have R1 := hide r1; have HG := hide hg; clear r1 r2 hg))
  go_ret
  have hg : Below w.heap.size (w.alloc (.cells #[] 5)) w5 := by
   rcases uh HG with ⟨_, h2⟩ | ⟨_, h2⟩
   ·exact ⟨h2.os, h2.tape, h2.output, h2.size, fun k hk => h2.block k (by simp; omega) (by simp [Value.ownBlock]; omega)⟩
   ·exact ⟨h2.os, h2.tape, h2.output, h2.size, fun k hk => h2.block k (by simp; omega) (by simp)⟩
  refine ⟨⟨p, c, rfl, row_up (uh R1) (fun q hq => ?_)⟩, (bal (Below.refl w.heap.size w) _).trans hg⟩
  rcases uh HG with ⟨h1, _⟩ | ⟨h1, _⟩
  ·rw [h1] at hq
   simp only [Value.ownBlock, Option.some.injEq] at hq
   omega
  ·rw [h1] at hq
   simp only [Option.some.injEq, World.size_alloc] at hq
   omega
end Go.Proofs.YtpeohbkigkfcgabGreatDoor
namespace Go.Proofs
open Go.RowKit Go.Maps Go.Sort Go.Shelf
def Tryz.keys48_ren : Go.Shelf.Ren := ⟨fun | 7 => 152 | 10 => 254 | n => n, fun | 23 => 83 | 26 => 9 | 3 => 88 | 28 => 176 | 0 => 0 | 27 => 175 | 33 => 184 | 4 => 4 | n => n, fun | n => n⟩
theorem Tryz.keys48 : Go.Proofs.SlLaysZ.n7 Tryz.prog Tryz.keys48_ren := {
  mixed := by kernel_rfl
  f7 := ⟨Tryz.f152.name, by decide, Tryz.func152.trans (congrArg some (by kernel_rfl))⟩
  f10 := ⟨Tryz.f254.name, by decide, Tryz.func254.trans (congrArg some (by kernel_rfl))⟩
  t0 := Tryz.underlying0
  a0 := Tryz.isAgg0
  z0 := Tryz.sizeOf0
  v0 := Tryz.zeroValue0
  t4 := Tryz.underlying4
  a4 := Tryz.isAgg4
  z4 := Tryz.sizeOf4
  v4 := Tryz.zeroValue4
  t23 := Tryz.underlying83
  a23 := Tryz.isAgg83
  z23 := Tryz.sizeOf83
  v23 := Tryz.zeroValue83
  t26 := Tryz.underlying9
  a26 := Tryz.isAgg9
  z26 := Tryz.sizeOf9
  v26 := Tryz.zeroValue9
  t27 := Tryz.underlying175
  a27 := Tryz.isAgg175
  z27 := Tryz.sizeOf175
  v27 := Tryz.zeroValue175
  t28 := Tryz.underlying176
  a28 := Tryz.isAgg176
  z28 := Tryz.sizeOf176
  v28 := Tryz.zeroValue176
  t33 := Tryz.underlying184
  a33 := Tryz.isAgg184
  z33 := Tryz.sizeOf184
  v33 := Tryz.zeroValue184 }
def Tryz.sorted47_ren : Go.Shelf.Ren := ⟨fun | 6 => 151 | 8 => 252 | 9 => 253 | 11 => 259 | 13 => 261 | 12 => 260 | 23 => 272 | 24 => 273 | 14 => 263 | 15 => 264 | 16 => 265 | 17 => 266 | 18 => 267 | 19 => 268 | 20 => 269 | 21 => 270 | 22 => 271 | 25 => 275 | 26 => 276 | 27 => 277 | 28 => 278 | 29 => 279 | 30 => 280 | 31 => 282 | n => n, fun | 26 => 9 | 28 => 176 | 24 => 77 | 0 => 0 | 3 => 3 | 37 => 278 | 48 => 279 | 50 => 291 | 4 => 4 | 40 => 283 | 39 => 282 | 45 => 287 | 5 => 5 | 9 => 9 | 51 => 292 | 55 => 296 | 57 => 299 | 58 => 300 | 33 => 184 | n => n, fun | n => n⟩
theorem Tryz.sorted47 : Go.Proofs.SlLaysZ.n6 Tryz.prog Tryz.sorted47_ren := {
  mixed := by kernel_rfl
  f6 := ⟨Tryz.f151.name, by decide, Tryz.func151.trans (congrArg some (by kernel_rfl))⟩
  f8 := ⟨Tryz.f252.name, by decide, Tryz.func252.trans (congrArg some (by kernel_rfl))⟩
  f11 := ⟨Tryz.f259.name, by decide, Tryz.func259.trans (congrArg some (by kernel_rfl))⟩
  t0 := Tryz.underlying0
  a0 := Tryz.isAgg0
  z0 := Tryz.sizeOf0
  v0 := Tryz.zeroValue0
  t24 := Tryz.underlying77
  a24 := Tryz.isAgg77
  z24 := Tryz.sizeOf77
  v24 := Tryz.zeroValue77
  t26 := Tryz.underlying9
  a26 := Tryz.isAgg9
  z26 := Tryz.sizeOf9
  v26 := Tryz.zeroValue9
  t28 := Tryz.underlying176
  a28 := Tryz.isAgg176
  z28 := Tryz.sizeOf176
  v28 := Tryz.zeroValue176
  i26 := by kernel_rfl }
def Tryz.sort55_ren : Go.Shelf.Ren := ⟨fun | 6 => 253 | 8 => 261 | 9 => 260 | 19 => 272 | 20 => 273 | 21 => 263 | 22 => 264 | 23 => 265 | 24 => 266 | 25 => 267 | 26 => 268 | 27 => 269 | 28 => 270 | 29 => 271 | 36 => 275 | 31 => 276 | 32 => 277 | 37 => 278 | 38 => 279 | 39 => 280 | 41 => 282 | n => n, fun | 27 => 77 | 29 => 9 | 3 => 3 | 32 => 278 | 26 => 77 | 0 => 0 | 44 => 279 | 46 => 291 | 4 => 4 | 36 => 283 | 35 => 282 | 41 => 287 | 5 => 5 | 9 => 9 | 53 => 292 | 57 => 296 | 63 => 299 | 64 => 300 | n => n, fun | n => n⟩
theorem Tryz.sort55 : Go.Proofs.SlLaysM.n6 Tryz.prog Tryz.sort55_ren := {
  mixed := by kernel_rfl
  f6 := ⟨Tryz.f253.name, by decide, Tryz.func253.trans (congrArg some (by kernel_rfl))⟩
  f8 := Tryz.func261.trans (congrArg some (by kernel_rfl))
  f9 := ⟨Tryz.f260.name, by decide, Tryz.func260.trans (congrArg some (by kernel_rfl))⟩
  f19 := Tryz.func272.trans (congrArg some (by kernel_rfl))
  f20 := Tryz.func273.trans (congrArg some (by kernel_rfl))
  f21 := ⟨Tryz.f263.name, by decide, Tryz.func263.trans (congrArg some (by kernel_rfl))⟩
  f22 := ⟨Tryz.f264.name, by decide, Tryz.func264.trans (congrArg some (by kernel_rfl))⟩
  f23 := ⟨Tryz.f265.name, by decide, Tryz.func265.trans (congrArg some (by kernel_rfl))⟩
  f24 := ⟨Tryz.f266.name, by decide, Tryz.func266.trans (congrArg some (by kernel_rfl))⟩
  f25 := ⟨Tryz.f267.name, by decide, Tryz.func267.trans (congrArg some (by kernel_rfl))⟩
  f26 := ⟨Tryz.f268.name, by decide, Tryz.func268.trans (congrArg some (by kernel_rfl))⟩
  f27 := ⟨Tryz.f269.name, by decide, Tryz.func269.trans (congrArg some (by kernel_rfl))⟩
  f28 := ⟨Tryz.f270.name, by decide, Tryz.func270.trans (congrArg some (by kernel_rfl))⟩
  f29 := ⟨Tryz.f271.name, by decide, Tryz.func271.trans (congrArg some (by kernel_rfl))⟩
  f31 := Tryz.func276.trans (congrArg some (by kernel_rfl))
  f32 := Tryz.func277.trans (congrArg some (by kernel_rfl))
  f36 := ⟨Tryz.f275.name, by decide, Tryz.func275.trans (congrArg some (by kernel_rfl))⟩
  f37 := ⟨Tryz.f278.name, by decide, Tryz.func278.trans (congrArg some (by kernel_rfl))⟩
  f38 := ⟨Tryz.f279.name, by decide, Tryz.func279.trans (congrArg some (by kernel_rfl))⟩
  f39 := ⟨Tryz.f280.name, by decide, Tryz.func280.trans (congrArg some (by kernel_rfl))⟩
  f41 := ⟨Tryz.f282.name, by decide, Tryz.func282.trans (congrArg some (by kernel_rfl))⟩
  t0 := Tryz.underlying0
  a0 := Tryz.isAgg0
  z0 := Tryz.sizeOf0
  v0 := Tryz.zeroValue0
  t3 := Tryz.underlying3
  a3 := Tryz.isAgg3
  z3 := Tryz.sizeOf3
  v3 := Tryz.zeroValue3
  t4 := Tryz.underlying4
  a4 := Tryz.isAgg4
  z4 := Tryz.sizeOf4
  v4 := Tryz.zeroValue4
  t5 := Tryz.underlying5
  a5 := Tryz.isAgg5
  z5 := Tryz.sizeOf5
  v5 := Tryz.zeroValue5
  t9 := Tryz.underlying9
  a9 := Tryz.isAgg9
  z9 := Tryz.sizeOf9
  v9 := Tryz.zeroValue9
  t26 := Tryz.underlying77
  a26 := Tryz.isAgg77
  z26 := Tryz.sizeOf77
  v26 := Tryz.zeroValue77
  t27 := Tryz.underlying77
  a27 := Tryz.isAgg77
  z27 := Tryz.sizeOf77
  v27 := Tryz.zeroValue77
  t29 := Tryz.underlying9
  a29 := Tryz.isAgg9
  z29 := Tryz.sizeOf9
  v29 := Tryz.zeroValue9
  t32 := Tryz.underlying278
  a32 := Tryz.isAgg278
  z32 := Tryz.sizeOf278
  v32 := Tryz.zeroValue278
  t35 := Tryz.underlying282
  a35 := Tryz.isAgg282
  z35 := Tryz.sizeOf282
  v35 := Tryz.zeroValue282
  t36 := Tryz.underlying283
  a36 := Tryz.isAgg283
  z36 := Tryz.sizeOf283
  v36 := Tryz.zeroValue283
  t41 := Tryz.underlying287
  a41 := Tryz.isAgg287
  z41 := Tryz.sizeOf287
  v41 := Tryz.zeroValue287
  t44 := Tryz.underlying279
  a44 := Tryz.isAgg279
  z44 := Tryz.sizeOf279
  v44 := Tryz.zeroValue279
  t46 := Tryz.underlying291
  a46 := Tryz.isAgg291
  z46 := Tryz.sizeOf291
  v46 := Tryz.zeroValue291
  t53 := Tryz.underlying292
  a53 := Tryz.isAgg292
  z53 := Tryz.sizeOf292
  v53 := Tryz.zeroValue292
  t57 := Tryz.underlying296
  a57 := Tryz.isAgg296
  z57 := Tryz.sizeOf296
  v57 := Tryz.zeroValue296
  t63 := Tryz.underlying299
  a63 := Tryz.isAgg299
  z63 := Tryz.sizeOf299
  v63 := Tryz.zeroValue299
  t64 := Tryz.underlying300
  a64 := Tryz.isAgg300
  z64 := Tryz.sizeOf300
  v64 := Tryz.zeroValue300 }
theorem Tryz.sorts47 (m : Nat) : AnyZ.SortsIn Tryz.prog Tryz.sorted47_ren Fence.wide m :=
  ⟨fun blk off cap ss W hH hblk hsz => callsIn_wide.2 (AnyM.slices_Sort_string Tryz.sort55 blk off cap ss W hH hblk hsz),
   fun p cap W => callsIn_wide.2 (AnyM.slices_Sort_string_none Tryz.sort55 p cap W)⟩
theorem Tryz.maps_Keys_48 (mb : Option Nat) (W : World) : CallsIn Fence.wide 5 Tryz.prog 152 #[.map mb] W fun e w' => e = .returned (.func (.func 254) #[] #[.pointer (some ⟨W.heap.size, 0, none⟩)]) ∧ w' = W.alloc (.cells #[.map mb] 83) :=
  AnyZ.keys_in Tryz.keys48 Fence.wide 5 trivial rfl mb W
set_option maxRecDepth 100000 in
set_option maxHeartbeats 1000000 in
theorem Tryz.slices_Sorted_keys_47_48 {H : Type} (b nn : Nat) (D0 : DataW H) (R : Value → Option (DataW H × List MemPlace)) (w : World) (hown : w.ownsMap Tryz.prog 9 R b nn D0) (hmax : Maps.size D0 ≤ maxLen) (hbytes : Maps.size D0 * 16 ≤ 140737488355328) :
    CallsIn Fence.wide 5 Tryz.prog 151 #[.func (.func 254) #[] #[.pointer (some ⟨w.heap.size, 0, none⟩)]] (w.alloc (.cells #[.map (some b)] 83)) fun e w' => ∃ (v : Value) (ss : List (List UInt8)), e = .returned v ∧ ss.Perm (strKeys D0) ∧
      w'.ownsRow (w.alloc (.cells #[.map (some b)] 83)).heap.size 9 1 v ss.length ((ss.mergeSort (fun x y => decide (x ≤ y))).map encStr) ∧ (v = .slice none 0 0 ↔ ss = []) ∧ Below (w.alloc (.cells #[.map (some b)] 83)).heap.size (w.alloc (.cells #[.map (some b)] 83)) w' := by
  have hbl := hown.lt
  have hseq : SeqGives Fence.wide 2 Tryz.prog 254 #[.pointer (some ⟨w.heap.size, 0, none⟩)] encStr (fun ss => ss.Perm (strKeys D0)) (Maps.size D0) (w.alloc (.cells #[.map (some b)] 83)) :=
    AnyZ.keys_gives (ρ := Tryz.keys48_ren) { Tryz.keys48 with } Fence.wide _ trivial rfl (by omega) w.heap.size b nn D0 _ (by simp) (by simp) (by
      obtain ⟨es, clock, hb, Ft, hs, hD⟩ := hown
      exact ⟨es, clock, (Below.heap_alloc _ _ b hbl).trans hb, Ft, hs, hD⟩)
  exact AnyZ.sorted_in Tryz.sorted47 Fence.wide 5 trivial trivial trivial trivial rfl (by omega) (Tryz.sorts47 _) (enters_of Tryz.func253 (by kernel_rfl) rfl) 254 #[.pointer (some ⟨w.heap.size, 0, none⟩)] trivial (enters_of Tryz.func254 (by kernel_rfl) rfl) _ _ hmax hbytes _ hseq
set_option maxRecDepth 100000 in
set_option maxHeartbeats 1000000 in
theorem Tryz.slices_Sorted_keys_nil_47_48 (w : World) :
    CallsIn Fence.wide 5 Tryz.prog 151 #[.func (.func 254) #[] #[.pointer (some ⟨w.heap.size, 0, none⟩)]] (w.alloc (.cells #[.map none] 83)) fun e w' => ∃ (v : Value) (ss : List (List UInt8)), e = .returned v ∧ ss = [] ∧
      w'.ownsRow (w.alloc (.cells #[.map none] 83)).heap.size 9 1 v ss.length ((ss.mergeSort (fun x y => decide (x ≤ y))).map encStr) ∧ (v = .slice none 0 0 ↔ ss = []) ∧ Below (w.alloc (.cells #[.map none] 83)).heap.size (w.alloc (.cells #[.map none] 83)) w' := by
  have hseq : SeqGives Fence.wide 2 Tryz.prog 254 #[.pointer (some ⟨w.heap.size, 0, none⟩)] encStr (fun ss : List (List UInt8) => ss = []) 0 (w.alloc (.cells #[.map none] 83)) :=
    AnyZ.keys_gives_nil (ρ := Tryz.keys48_ren) { Tryz.keys48 with } Fence.wide _ trivial rfl w.heap.size _ (by simp) (by simp)
  exact AnyZ.sorted_in Tryz.sorted47 Fence.wide 5 trivial trivial trivial trivial rfl (by omega) (Tryz.sorts47 _) (enters_of Tryz.func253 (by kernel_rfl) rfl) 254 #[.pointer (some ⟨w.heap.size, 0, none⟩)] trivial (enters_of Tryz.func254 (by kernel_rfl) rfl) _ 0 (Nat.zero_le _) (by omega) _ hseq
end Go.Proofs
namespace Go.Proofs.YtpeohbkigkfcgabGreatDoor
open Go Go.Shelf Go.ChangeShapes Go.WideShapes Go.ChangeAt Go.RowKit Go.Maps Go.Sort
theorem names_ok {w : World} {d N n : Nat} {K : Dk} {S : Nat -> Prop} {mo : Option Nat} {es : List (Lit × DataW Value)} (h : DiskIs w d N K S mo n es) (hO : OrdF K.A) (hl : K.A.length <= 64) :
  Calls Tryz.prog 47 #[.pointer (some ⟨d, 0, none⟩)] w fun e w' => ∃ v, e = .returned v /\ w'.ownsRow w.heap.size 9 1 v K.A.length ((K.A.map (·.1)).map encStr) /\ Below w.heap.size w w' := by
 have c1 := h.at'.c1
 have hes : es.length = K.A.length := h.fs.all.len
 rcases h.at'.files with ⟨rfl, h2⟩ | ⟨b, rfl, hm⟩
 ·injection h2 with h2
  subst h2
  have hA : K.A = [] := List.eq_nil_of_length_eq_zero hes.symm
  rw [hA]
  clear h
  refine (callsIn_wide (n := 6)).1 ?_
  have hfK : Fence.wide.fn 152 := trivial
  have hfS : Fence.wide.fn 151 := trivial
  refine callsIn_of_wp Tryz.func47 rfl trivial ?_ rfl
  simp only [Tryz.ntmps47, List.size_toArray, List.length_cons, List.length_nil, Nat.reduceAdd, Nat.reduceSub, Array.replicate_succ, Array.replicate_zero, List.push_toArray, List.append_toArray, List.nil_append, List.cons_append]
  gi_wp2_with (first
   | (gi_at_call 152; refine (Tryz.maps_Keys_48 _ _).mono ?_; rintro e w' ⟨rfl, rfl⟩)
   | (gi_at_call 151; refine (Tryz.slices_Sorted_keys_nil_47_48 w).mono ?_; rintro e w' ⟨v, ss, rfl, hS, hrow, hnil, hb⟩))
  go_ret
  subst hS
  have hrow : w'.ownsRow (w.alloc (Obj.cells #[Value.map none] 83)).heap.size 9 1 v 0 [] := by simpa using hrow
  exact ⟨v, rfl, row_up hrow (fun q hq => by have := (hrow.lt q hq).1; simp at this; omega), ((Below.refl _ w).alloc (Nat.le_refl _) _).trans (hb.mono (by simp))⟩
 ·have HD := hide h
  have hkeys := hide (keys_tie h.fs.all)
  have hsz : Maps.size (DataW.map es) = es.length := rfl
  have hmax : Maps.size (DataW.map es) <= maxLen := by rw [hsz]; unfold maxLen; omega
  have hbytes : Maps.size (DataW.map es) * 16 <= 140737488355328 := by rw [hsz]; omega
  clear h
  refine (callsIn_wide (n := 6)).1 ?_
  have hfK : Fence.wide.fn 152 := trivial
  have hfS : Fence.wide.fn 151 := trivial
  refine callsIn_of_wp Tryz.func47 rfl trivial ?_ rfl
  simp only [Tryz.ntmps47, List.size_toArray, List.length_cons, List.length_nil, Nat.reduceAdd, Nat.reduceSub, Array.replicate_succ, Array.replicate_zero, List.push_toArray, List.append_toArray, List.nil_append, List.cons_append]
  gi_wp2_with (first
   | (gi_at_call 152; refine (Tryz.maps_Keys_48 _ _).mono ?_; rintro e w' ⟨rfl, rfl⟩)
   | (gi_at_call 151; refine (Tryz.slices_Sorted_keys_47_48 b n (DataW.map es) fileElem w hm hmax hbytes).mono ?_; rintro e w' ⟨v, ss, rfl, hS, hrow, hnil, hb⟩))
  go_ret
  rw [uh hkeys] at hS
  have hlen : ss.length = K.A.length := by rw [hS.length_eq, List.length_map]
  have hsort := names_sorted hO hS
  have hsort' : ss.mergeSort (fun x y => decide (x <= y)) = K.A.map (·.1) := hsort
  rw [hsort', hlen] at hrow
  exact ⟨v, rfl, row_up hrow (fun q hq => by have := (hrow.lt q hq).1; simp at this; omega), ((Below.refl _ w).alloc (Nat.le_refl _) _).trans (hb.mono (by simp))⟩
theorem get_at : ∀ {A : Fs} {j : Nat} {k : List UInt8} {x : Fl}, OrdF A -> A[j]? = some (k, x) -> getF k A = some x
 | [], j, k, x, _, h => by simp at h
 | a :: A, 0, k, x, _, h => by
  simp only [List.getElem?_cons_zero, Option.some.injEq] at h
  subst h
  simp [getF]
 | a :: A, j + 1, k, x, hO, h => by
  unfold OrdF at hO
  rw [List.pairwise_cons] at hO
  simp only [List.getElem?_cons_succ] at h
  have hm : (k, x) ∈ A := List.mem_of_getElem? h
  have hne : (a.1 == k) = false := by
   rw [beq_eq_false_iff_ne]
   intro e
   have := hO.1 _ hm
   rw [e] at this
   rw [Go.WideAt.bytes_irrefl] at this
   cases this
  have := get_at (A := A) hO.2 h
  unfold getF at this ⊢
  rw [List.find?_cons, hne]
  exact this
theorem look_file {w : World} {d N n b : Nat} {K : Dk} {S : Nat -> Prop} {es : List (Lit × DataW Value)} (h : DiskIs w d N K S (some b) n es) {s : ByteArray} (hs : s.size <= maxLen) {x : Fl} (hx : getF s.data.toList K.A = some x) :
  ∃ p c, (Instr.lookup 83 (.map (some b)) (.string s) false).run Tryz.prog w = .ok (.agg #[.slice p x.bs.length c, .int .i64 (x.sy : Int)]) w /\ Hit w s K es p x.bs.length c (x.sy : Int) x := by
 have hm : w.ownsMap Tryz.prog 9 fileElem b n (.map es) := by
  rcases h.at'.files with ⟨h1, _⟩ | ⟨b', h1, h2⟩
  ·cases h1
  ·injection h1 with h1
   subst h1
   exact h2
 obtain ⟨v, ps, hrun, hv⟩ := hm.lookup (Maps.string_keyed Tryz.underlying9) Tryz.underlying83 (zero67 w) (zd := .held noFile) (zp := []) rfl (key9 hs)
 obtain ⟨e0, he0, ha, hf⟩ := at_tie h.fs.all hx (.held noFile)
 obtain ⟨f1, p, c, f2, f3⟩ := hf
 obtain ⟨p', m', c', y', rfl, hz⟩ := fileElem_inv hv
 have e2 := (congrArg Prod.fst hz).symm.trans (ha.trans f2)
 simp only [DataW.held.injEq, Value.agg.injEq] at e2
 have e3 := congrArg Array.toList e2
 simp only [List.cons.injEq, Value.slice.injEq, Value.int.injEq, true_and, and_true] at e3
 obtain ⟨⟨g1, g2, g3⟩, g4⟩ := e3
 subst g1 g2 g3 g4
 refine ⟨p', c', hrun, hx, rfl, rfl, ?_, f3⟩
 obtain ⟨e01, e02⟩ := e0
 simp only at f1 f2
 subst f1 f2
 exact he0
inductive StCells (W : World) : Nat -> Nat -> Fs -> List Value -> Prop
 | nil {b e : Nat} (h : b <= e) : StCells W b e [] []
 | cons {b m e : Nat} {k : List UInt8} {x : Fl} {p : Option Addr} {c : Nat} {A : Fs} {xs : List Value} (hr : W.ownsRow b 5 1 (.slice p x.bs.length c) x.bs.length (bcs x.bs)) (hl : ∀ q, (Value.slice p x.bs.length c).ownBlock = some q -> q < m) (hb : b <= m) (hs : StCells W m e A xs) :
   StCells W b e ((k, x) :: A) (encStr k :: .slice p x.bs.length c :: .int .i64 (x.sy : Int) :: xs)
theorem StCells.le {W : World} {b e : Nat} {A : Fs} {xs : List Value} (h : StCells W b e A xs) : b <= e := by
 induction h with
 | nil h => exact h
 | cons _ _ h1 _ ih => exact Nat.le_trans h1 ih
theorem StCells.append {W : World} {b m e : Nat} {A A' : Fs} {xs ys : List Value} (h : StCells W b m A xs) (h' : StCells W m e A' ys) : StCells W b e (A ++ A') (xs ++ ys) := by
 induction h with
 | nil h =>
  cases h' with
  | nil h2 => exact .nil (Nat.le_trans h h2)
  | cons hr hl hb hs => exact .cons (row_base hr h) hl (Nat.le_trans h hb) hs
 | cons hr hl hb _ ih => exact .cons hr hl hb (ih h')
theorem StCells.len {W : World} {b e : Nat} {A : Fs} {xs : List Value} (h : StCells W b e A xs) : xs.length = A.length * 3 := by
 induction h with
 | nil _ => rfl
 | cons _ _ _ _ ih => simp only [List.length_cons, ih]; omega
theorem StCells.far {W W' : World} {b e : Nat} {A : Fs} {xs : List Value} (h : StCells W b e A xs) (hq : ∀ q, b <= q -> q < e -> (∃ cur, W.heap[q]? = some (.cells cur 5 (0, 0))) -> W'.heap[q]? = W.heap[q]?) : StCells W' b e A xs := by
 induction h with
 | nil h => exact .nil h
 | cons hr hl hb hs ih =>
  refine .cons (row_far hr (fun q hq' => ?_)) hl hb (ih (fun q h1 h2 h3 => hq q (Nat.le_trans hb h1) h2 h3))
  rcases hr.2 with ⟨h1, _⟩ | ⟨g, cap, cur, h1, h2, h3, _⟩
  ·rw [h1] at hq'; cases hq'
  ·rw [h1] at hq'
   simp only [Value.ownBlock, Option.some.injEq] at hq'
   subst hq'
   exact hq g h2 (Nat.lt_of_lt_of_le (hl g (by rw [h1]; rfl)) hs.le) ⟨cur, h3⟩
def FilesRow (W : World) (b e : Nat) (v : Value) (A : Fs) : Prop := ∃ xs, W.ownsRow b 82 3 v A.length xs /\ StCells W b e A xs
end Go.Proofs.YtpeohbkigkfcgabGreatDoor
