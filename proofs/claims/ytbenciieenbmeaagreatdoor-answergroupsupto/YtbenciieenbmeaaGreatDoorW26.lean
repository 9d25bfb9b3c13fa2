import Derived.Shelf.SlSortCmp.Whole1
import Derived.Shelf.SlLaysF
import Derived.Ground.SlsfProg
import Derived.Test.YtbenciieenbmeaaGreatDoorProg
import Derived.Test.YtbenciieenbmeaaGreatDoorW25
namespace Go.Proofs
open Go.RowKit Go.Sort Go.Shelf

def Tryz.sortL_ren : Go.Shelf.Ren := ⟨fun | 6 => 32 | 15 => 52 | 14 => 51 | 28 => 93 | 29 => 94 | 20 => 85 | 21 => 86 | 22 => 87 | 23 => 88 | 24 => 89 | 25 => 90 | 26 => 91 | 27 => 92 | 46 => 111 | 47 => 112 | 48 => 113 | 49 => 114 | 50 => 115 | 57 => 131 | n => n, fun | 22 => 32 | 24 => 46 | 25 => 85 | 3 => 3 | 39 => 124 | 0 => 0 | 53 => 177 | 55 => 163 | 4 => 4 | 46 => 171 | 45 => 170 | 50 => 152 | 5 => 5 | 9 => 9 | 66 => 215 | 70 => 219 | 76 => 237 | 77 => 238 | n => n, fun | n => n⟩
theorem Tryz.sortL : Go.Proofs.SlLaysF.n6 Tryz.prog Tryz.sortL_ren := {
  mixed := by kernel_rfl
  f6 := ⟨Tryz.f32.name, by decide, Tryz.func32.trans (congrArg some (by kernel_rfl))⟩
  f14 := ⟨Tryz.f51.name, by decide, Tryz.func51.trans (congrArg some (by kernel_rfl))⟩
  f15 := Tryz.func52.trans (congrArg some (by kernel_rfl))
  f20 := ⟨Tryz.f85.name, by decide, Tryz.func85.trans (congrArg some (by kernel_rfl))⟩
  f21 := ⟨Tryz.f86.name, by decide, Tryz.func86.trans (congrArg some (by kernel_rfl))⟩
  f22 := ⟨Tryz.f87.name, by decide, Tryz.func87.trans (congrArg some (by kernel_rfl))⟩
  f23 := ⟨Tryz.f88.name, by decide, Tryz.func88.trans (congrArg some (by kernel_rfl))⟩
  f24 := ⟨Tryz.f89.name, by decide, Tryz.func89.trans (congrArg some (by kernel_rfl))⟩
  f25 := ⟨Tryz.f90.name, by decide, Tryz.func90.trans (congrArg some (by kernel_rfl))⟩
  f26 := ⟨Tryz.f91.name, by decide, Tryz.func91.trans (congrArg some (by kernel_rfl))⟩
  f27 := ⟨Tryz.f92.name, by decide, Tryz.func92.trans (congrArg some (by kernel_rfl))⟩
  f28 := Tryz.func93.trans (congrArg some (by kernel_rfl))
  f29 := Tryz.func94.trans (congrArg some (by kernel_rfl))
  f46 := ⟨Tryz.f111.name, by decide, Tryz.func111.trans (congrArg some (by kernel_rfl))⟩
  f47 := Tryz.func112.trans (congrArg some (by kernel_rfl))
  f48 := Tryz.func113.trans (congrArg some (by kernel_rfl))
  f49 := ⟨Tryz.f114.name, by decide, Tryz.func114.trans (congrArg some (by kernel_rfl))⟩
  f50 := ⟨Tryz.f115.name, by decide, Tryz.func115.trans (congrArg some (by kernel_rfl))⟩
  f57 := ⟨Tryz.f131.name, by decide, Tryz.func131.trans (congrArg some (by kernel_rfl))⟩
  t0 := Tryz.underlying0
  a0 := Tryz.isAgg0
  z0 := Tryz.sizeOf0
  v0 := Tryz.zeroValue0
  t3 := Tryz.underlying3
  a3 := Tryz.isAgg3
  z3 := Tryz.sizeOf3
  v3 := Tryz.zeroValue3
  t4 := Tryz.underlying4
  a4 := Tryz.isAgg4
  z4 := Tryz.sizeOf4
  v4 := Tryz.zeroValue4
  t5 := Tryz.underlying5
  a5 := Tryz.isAgg5
  z5 := Tryz.sizeOf5
  v5 := Tryz.zeroValue5
  t9 := Tryz.underlying9
  a9 := Tryz.isAgg9
  z9 := Tryz.sizeOf9
  v9 := Tryz.zeroValue9
  t22 := Tryz.underlying32
  a22 := Tryz.isAgg32
  z22 := Tryz.sizeOf32
  v22 := Tryz.zeroValue32
  a24 := Tryz.isAgg46
  z24 := Tryz.sizeOf46
  t25 := Tryz.underlying85
  a25 := Tryz.isAgg85
  z25 := Tryz.sizeOf85
  v25 := Tryz.zeroValue85
  t39 := Tryz.underlying124
  a39 := Tryz.isAgg124
  z39 := Tryz.sizeOf124
  v39 := Tryz.zeroValue124
  t45 := Tryz.underlying170
  a45 := Tryz.isAgg170
  z45 := Tryz.sizeOf170
  v45 := Tryz.zeroValue170
  t46 := Tryz.underlying171
  a46 := Tryz.isAgg171
  z46 := Tryz.sizeOf171
  v46 := Tryz.zeroValue171
  t50 := Tryz.underlying152
  a50 := Tryz.isAgg152
  z50 := Tryz.sizeOf152
  v50 := Tryz.zeroValue152
  t53 := Tryz.underlying177
  a53 := Tryz.isAgg177
  z53 := Tryz.sizeOf177
  v53 := Tryz.zeroValue177
  t55 := Tryz.underlying163
  a55 := Tryz.isAgg163
  z55 := Tryz.sizeOf163
  v55 := Tryz.zeroValue163
  t66 := Tryz.underlying215
  a66 := Tryz.isAgg215
  z66 := Tryz.sizeOf215
  v66 := Tryz.zeroValue215
  t70 := Tryz.underlying219
  a70 := Tryz.isAgg219
  z70 := Tryz.sizeOf219
  v70 := Tryz.zeroValue219
  t76 := Tryz.underlying237
  a76 := Tryz.isAgg237
  z76 := Tryz.sizeOf237
  v76 := Tryz.zeroValue237
  t77 := Tryz.underlying238
  a77 := Tryz.isAgg238
  z77 := Tryz.sizeOf238
  v77 := Tryz.zeroValue238 }
end Go.Proofs
/- answer: order 33; the comparison of lines is an order; SortFunc 32. -/
namespace Go.Proofs.YtbenciieenbmeaaGreatDoor
open Go Go.Shelf Go.ChangeShapes Go.WideShapes Go.ChangeAt Go.RowKit Go.Maps Go.Sort
set_option linter.unusedVariables false
set_option maxRecDepth 100000
set_option maxHeartbeats 4000000
section
attribute [local go_sem ↓] ld80_is
theorem order_any {W : World} {pF : Option Addr} {nF cF : Nat} {pU : Option Addr} {nU cU : Nat} {pP : Option Addr} {nP cP : Nat} {P : List Int} {pO : Option Addr} {nO cO : Nat} {O : List (Int × Bool)} (hP : Lies kI W pP P) (hnP : P.length = nP) (hO : Lies kO W pO O) (hnO : O.length = nO) (hF : nF ≤ 14) (hU : nU ≤ 1048576) (hOb : nO ≤ 1048576) (hPi : ∀ z ∈ P, 0 ≤ z ∧ z < ((nF + nU : Nat) : Int)) (hOi : ∀ x ∈ O, 0 ≤ x.1 ∧ x.1 < (nP : Int)) :
    Calls Tryz.prog 33 #[.agg #[.slice pF nF cF, .slice pU nU cU, .slice pP nP cP], .slice pO nO cO] W fun e w' => ∃ kv p c, e = .returned (.func (.func 54) #[] #[.pointer (some ⟨kv, 0, none⟩)]) ∧ Below W.heap.size W w' ∧ Bk w' kv 25 [.slice p (keysL P O nF).length c] ∧ Lies kO w' p (keysL P O nF) ∧ W.heap.size ≤ kv ∧ ∀ b o, p = some ⟨b, o, none⟩ → W.heap.size ≤ b := by
  obtain ⟨A, hA⟩ : ∃ A, A = W.alloc (.cells #[.slice pF nF cF, .slice pU nU cU, .slice pP nP cP] 80) := ⟨_, rfl⟩
  have hBA : Below W.heap.size W A := by rw [hA]; exact Below.a1 W _
  have b80 : Bk A W.heap.size 80 [.slice pF nF cF, .slice pU nU cU, .slice pP nP cP] := by show A.heap[_]? = _; rw [hA]; exact heap_new _ _
  have l80 : (ld80 (.pointer (some ⟨W.heap.size, 0, none⟩))).run Tryz.prog A = .ok (.agg #[.slice pF nF cF, .slice pU nU cU, .slice pP nP cP]) A := run_ld80 (fun j u hu => by rw [b80.cell, Nat.zero_add]; exact hu)
  have d := hide (sortKeys_any (W := A) (cF := cF) (pF := pF) (pU := pU) (cU := cU) (cP := cP) (cO := cO) (hP.below hBA) hnP (hO.below hBA) hnO hF hU hOb hPi hOi)
  have HA := hide hA
  have HBA := hide hBA
  obtain ⟨nK, hnK⟩ : ∃ n, n = (keysL P O nF).length := ⟨_, rfl⟩
  rw [← hnK] at d ⊢
  clear hP hnP hO hnO hPi hOi hA hBA b80 hnK
  go_enter Tryz.func33, Tryz.ntmps33
  go_upto_region 1 with fail
  rw [← unhide HA]
  go_wp2_with fail
  refine (unhide d).mono ?_
  rintro e w1 ⟨p, c, rfl, hb, hl, hl2⟩
  have HO : Hid (Below W.heap.size W (w1.alloc (.cells #[.slice p nK c] 25)) ∧ Bk (w1.alloc (.cells #[.slice p nK c] 25)) w1.heap.size 25 [.slice p nK c] ∧ Lies kO (w1.alloc (.cells #[.slice p nK c] 25)) p (keysL P O nF) ∧ W.heap.size ≤ w1.heap.size ∧ ∀ b o, p = some ⟨b, o, none⟩ → W.heap.size ≤ b) := by
    have h1 := (unhide HBA).trans (hb.mono (unhide HBA).size)
    exact ⟨h1.alloc h1.size _, heap_new _ _, hl.below (Below.a1 w1 _), h1.size, fun b o e => Nat.le_trans (unhide HBA).size (hl2 b o e)⟩
  clear hb hl hl2 l80
  go_wp2_with fail
  go_ret
  obtain ⟨h1, h2, h3, h4, h5⟩ := unhide HO
  exact ⟨_, p, c, rfl, h1, h2, h3, h4, h5⟩
end
/-- how two cells compare -/
theorem cmpC_neg (x y : Cl) : cmpC x y < 0 ↔ x.num < y.num ∨ (x.num = y.num ∧ x.tx.data.toList < y.tx.data.toList) := by
  unfold cmpC or2
  by_cases h : x.num = y.num
  · rw [if_neg (fun e => e ((cmpI_zero _ _).2 h)), cmpS_neg]
    exact ⟨fun h2 => .inr ⟨h, h2⟩, fun h2 => h2.elim (fun h3 => by omega) (fun h3 => h3.2)⟩
  · rw [if_pos (fun e => h ((cmpI_zero _ _).1 e)), cmpI_neg]
    exact ⟨.inl, fun h2 => h2.elim id (fun h3 => absurd h3.1 h)⟩
theorem cmpC_anti (x y : Cl) : cmpC y x = -cmpC x y := by
  have h1 := cmpC_or x y
  have h2 := cmpC_or y x
  have n1 := cmpC_neg x y
  have n2 := cmpC_neg y x
  by_cases a : cmpC x y < 0
  · have := n1.1 a
    have h3 : ¬ cmpC y x < 0 := fun h => by
      rcases this with h4 | ⟨h4, h5⟩ <;> rcases n2.1 h with h6 | ⟨h6, h7⟩
      · omega
      · omega
      · omega
      · exact slt_irrefl _ (slt_trans h5 h7)
    have h4 : cmpC y x ≠ 0 := fun h0 => by
      unfold cmpC or2 at h0
      by_cases e : y.num = x.num
      · rw [if_neg (fun e' => e' ((cmpI_zero _ _).2 e))] at h0
        have hx : x.tx.data.toList < y.tx.data.toList := by
          rcases this with h5 | h5
          · omega
          · exact h5.2
        unfold cmpS at h0
        split at h0
        · omega
        · split at h0
          · rename_i h8; rw [h8] at hx; exact slt_irrefl _ hx
          · omega
      · rw [if_pos (fun e' => e ((cmpI_zero _ _).1 e'))] at h0
        exact e ((cmpI_zero _ _).1 h0)
    omega
  · by_cases b : cmpC y x < 0
    · have := n2.1 b
      have h4 : cmpC x y ≠ 0 := fun h0 => by
        unfold cmpC or2 at h0
        by_cases e : x.num = y.num
        · rw [if_neg (fun e' => e' ((cmpI_zero _ _).2 e))] at h0
          have hx : y.tx.data.toList < x.tx.data.toList := by
            rcases this with h5 | h5
            · omega
            · exact h5.2
          unfold cmpS at h0
          split at h0
          · omega
          · split at h0
            · rename_i h8; rw [h8] at hx; exact slt_irrefl _ hx
            · omega
        · rw [if_pos (fun e' => e ((cmpI_zero _ _).1 e'))] at h0
          exact e ((cmpI_zero _ _).1 h0)
      omega
    · have e1 : ¬ (x.num < y.num ∨ (x.num = y.num ∧ x.tx.data.toList < y.tx.data.toList)) := fun h => a (n1.2 h)
      have e2 : ¬ (y.num < x.num ∨ (y.num = x.num ∧ y.tx.data.toList < x.tx.data.toList)) := fun h => b (n2.2 h)
      have hn : x.num = y.num := by
        have := fun h => e1 (.inl h)
        have := fun h => e2 (.inl h)
        omega
      have ht : x.tx.data.toList = y.tx.data.toList := slt_tri (fun h => e1 (.inr ⟨hn, h⟩)) (fun h => e2 (.inr ⟨hn.symm, h⟩))
      have z1 : cmpC x y = 0 := by unfold cmpC or2 cmpS; rw [if_neg (fun e => e ((cmpI_zero _ _).2 hn)), ht, if_neg (slt_irrefl _), if_pos rfl]
      have z2 : cmpC y x = 0 := by unfold cmpC or2 cmpS; rw [if_neg (fun e => e ((cmpI_zero _ _).2 hn.symm)), ht, if_neg (slt_irrefl _), if_pos rfl]
      omega
theorem cmpC_zero (x y : Cl) : cmpC x y = 0 ↔ x.num = y.num ∧ x.tx.data.toList = y.tx.data.toList := by
  constructor
  · intro h
    have a := cmpC_anti x y
    have e1 : ¬ (x.num < y.num ∨ (x.num = y.num ∧ x.tx.data.toList < y.tx.data.toList)) := fun h2 => by have := (cmpC_neg x y).2 h2; omega
    have e2 : ¬ (y.num < x.num ∨ (y.num = x.num ∧ y.tx.data.toList < x.tx.data.toList)) := fun h2 => by have := (cmpC_neg y x).2 h2; omega
    have hn : x.num = y.num := by
      have := fun h => e1 (.inl h)
      have := fun h => e2 (.inl h)
      omega
    exact ⟨hn, slt_tri (fun h => e1 (.inr ⟨hn, h⟩)) (fun h => e2 (.inr ⟨hn.symm, h⟩))⟩
  · rintro ⟨hn, ht⟩
    unfold cmpC or2 cmpS
    rw [if_neg (fun e => e ((cmpI_zero _ _).2 hn)), ht, if_neg (slt_irrefl _), if_pos rfl]
theorem cmpC_trans {x y z : Cl} (h1 : cmpC x y < 0) (h2 : cmpC y z < 0) : cmpC x z < 0 := by
  rw [cmpC_neg] at *
  rcases h1 with h1 | ⟨h1, t1⟩ <;> rcases h2 with h2 | ⟨h2, t2⟩
  · left; omega
  · left; omega
  · left; omega
  · right; exact ⟨by omega, slt_trans t1 t2⟩
/-- the sign of a key's comparison -/
def cmp1 (k : Int × Bool) (L M : List Cl) : Int := if k.2 then -cmpC (L.getD k.1.toNat .no) (M.getD k.1.toNat .no) else cmpC (L.getD k.1.toNat .no) (M.getD k.1.toNat .no)
theorem cmp1_anti (k : Int × Bool) (L M : List Cl) : cmp1 k M L = -cmp1 k L M := by
  unfold cmp1
  split <;> rw [cmpC_anti]
theorem cmp1_trans {k : Int × Bool} {L M N : List Cl} (h1 : cmp1 k L M < 0) (h2 : cmp1 k M N < 0) : cmp1 k L N < 0 := by
  unfold cmp1 at *
  split at h1
  · rename_i hk
    rw [if_pos hk] at h2 ⊢
    rw [← cmpC_anti] at *
    exact cmpC_trans h2 h1
  · rename_i hk
    rw [if_neg hk] at h2 ⊢
    exact cmpC_trans h1 h2
theorem cmp1_zero {k : Int × Bool} {L M : List Cl} : cmp1 k L M = 0 ↔ (L.getD k.1.toNat .no).num = (M.getD k.1.toNat .no).num ∧ (L.getD k.1.toNat .no).tx.data.toList = (M.getD k.1.toNat .no).tx.data.toList := by
  rw [← cmpC_zero]
  unfold cmp1
  split
  · constructor <;> intro h <;> omega
  · exact Iff.rfl
theorem cmp1_left {k : Int × Bool} {L M N : List Cl} (h : cmp1 k L M = 0) : cmp1 k L N = cmp1 k M N := by
  obtain ⟨h1, h2⟩ := cmp1_zero.1 h
  unfold cmp1 cmpC
  rw [h1, h2]
theorem cmp1_right {k : Int × Bool} {L M N : List Cl} (h : cmp1 k M N = 0) : cmp1 k L M = cmp1 k L N := by
  obtain ⟨h1, h2⟩ := cmp1_zero.1 h
  unfold cmp1 cmpC
  rw [h1, h2]
theorem cmpK_cons (k : Int × Bool) (ks : List (Int × Bool)) (L M : List Cl) : cmpK (k :: ks) L M = if cmp1 k L M = 0 then cmpK ks L M else cmp1 k L M := rfl
theorem cmpK_anti (ks : List (Int × Bool)) (L M : List Cl) : cmpK ks M L = -cmpK ks L M := by
  induction ks with
  | nil => rfl
  | cons k ks ih =>
    rw [cmpK_cons, cmpK_cons, cmp1_anti k L M, ih]
    by_cases h : cmp1 k L M = 0
    · rw [if_pos h, if_pos (by omega)]
    · rw [if_neg h, if_neg (by omega)]
theorem cmpK_trans {ks : List (Int × Bool)} {L M N : List Cl} (h1 : cmpK ks L M < 0) (h2 : cmpK ks M N < 0) : cmpK ks L N < 0 := by
  induction ks with
  | nil => exact absurd h1 (show ¬ (0 : Int) < 0 by decide)
  | cons k ks ih =>
    rw [cmpK_cons] at h1 h2 ⊢
    by_cases a : cmp1 k L M = 0
    · rw [if_pos a] at h1
      rw [cmp1_left a]
      by_cases b : cmp1 k M N = 0
      · rw [if_pos b] at h2 ⊢; exact ih h1 h2
      · rw [if_neg b] at h2 ⊢; exact h2
    · rw [if_neg a] at h1
      by_cases b : cmp1 k M N = 0
      · rw [← cmp1_right b, if_neg a]; exact h1
      · rw [if_neg b] at h2
        have := cmp1_trans h1 h2
        rw [if_neg (by omega)]; exact this
theorem cmpK_zero {ks : List (Int × Bool)} {L M : List Cl} : cmpK ks L M = 0 ↔ ∀ k ∈ ks, cmp1 k L M = 0 := by
  induction ks with
  | nil => exact ⟨(fun _ k hk => by cases hk), fun _ => rfl⟩
  | cons k ks ih =>
    rw [cmpK_cons]
    by_cases h : cmp1 k L M = 0
    · rw [if_pos h, ih]
      exact ⟨fun h2 x hx => by rcases List.mem_cons.1 hx with rfl | h3; exact h; exact h2 x h3, fun h2 x hx => h2 x (List.mem_cons_of_mem _ hx)⟩
    · rw [if_neg h]
      exact ⟨fun h2 => absurd h2 h, fun h2 => absurd (h2 k (by simp)) h⟩
theorem cmpK_left {ks : List (Int × Bool)} {L M N : List Cl} (h : cmpK ks L M = 0) : cmpK ks L N = cmpK ks M N := by
  induction ks with
  | nil => rfl
  | cons k ks ih =>
    have h2 := cmpK_zero.1 h
    rw [cmpK_cons, cmpK_cons, cmp1_left (h2 k (by simp)), ih (cmpK_zero.2 (fun x hx => h2 x (List.mem_cons_of_mem _ hx)))]
theorem swoK {α : Type} (f : α → List Cl) (ks : List (Int × Bool)) : SWO (ltOf (fun x y => cmpK ks (f x) (f y))) where
  irrefl x := by
    have h := cmpK_anti ks (f x) (f x)
    exact decide_eq_false (show ¬ cmpK ks (f x) (f x) < 0 by omega)
  trans x y z h1 h2 := decide_eq_true (cmpK_trans (of_decide_eq_true h1) (of_decide_eq_true h2))
  ntrans x y z h1 h2 := by
    have a := of_decide_eq_false h1
    have b := of_decide_eq_false h2
    refine decide_eq_false (fun h => ?_)
    have h : cmpK ks (f x) (f z) < 0 := h
    have a : ¬ cmpK ks (f x) (f y) < 0 := a
    have b : ¬ cmpK ks (f y) (f z) < 0 := b
    by_cases c : cmpK ks (f y) (f z) = 0
    · have h3 := cmpK_left (N := f x) c
      have e1 := cmpK_anti ks (f x) (f y)
      have e2 := cmpK_anti ks (f x) (f z)
      omega
    · have h4 : cmpK ks (f z) (f y) < 0 := by have := cmpK_anti ks (f y) (f z); omega
      exact a (cmpK_trans h h4)

theorem eg54' (args : Array Value) (w : World) : (callFunc 54 args).run Tryz.prog w = .ok (.enter 54 args) w := by kernel_rfl
theorem cell_sort {α : Type} [Inhabited α] (enc : α → Value) (w : World) (g off m : Nat) (d : Array α) (os : Array Obj) {q : Nat} (hq : q < w.heap.size) (hne : q ≠ g) : (sortWorld enc w g off m d os).heap[q]? = w.heap[q]? := by
  unfold sortWorld grow putRow mapBlock Sort.ahead
  show (w.heap.modify g _ ++ os)[q]? = w.heap[q]?
  rw [Array.getElem?_append_left (by simp; exact hq), Array.getElem?_modify, if_neg (fun e => hne e.symm)]
theorem fr_sort {α : Type} [Inhabited α] (enc : α → Value) (w : World) (g off m : Nat) (d : Array α) (os : Array Obj) : Fr w (sortWorld enc w g off m d os) (fun i => i = g) := by
  refine ⟨rfl, rfl, rfl, ?_, fun q hq hne => cell_sort enc w g off m d os hq hne⟩
  unfold sortWorld grow putRow mapBlock Sort.ahead
  simp
theorem extract_all {α : Type} (d : Array α) (n : Nat) (h : d.size = n) : d.extract 0 n = d := by subst h; simp
/-- lines that can be read -/
structure Lnz (w : World) (lb : Nat) (LL : List (List Cl)) : Prop where
  lt : lb < w.heap.size
  at' : ∀ i (h : i < LL.length), ∃ p c, w.cell? ⟨lb, i, none⟩ = some (.slice p LL[i].length c) ∧ Lies kC w p LL[i]
/-- lines sorted -/
def SortOut (W : World) (lb : Nat) (KS : List (Int × Bool)) (LL : List (List Cl)) (e : Ending) (w' : World) : Prop :=
  e = .returned (.tuple #[]) ∧ Fr W w' (fun i => i = lb) ∧ ∃ LL', LL'.Perm LL ∧ LL'.Pairwise (fun a b => ¬ cmpK KS b a < 0) ∧ Lnz w' lb LL'
theorem sort_lines {B : Nat} {W : World} {lb : Nat} {ss : List Value} {LL : List (List Cl)} {n : Nat} (h : Lns B W lb ss LL) (hn : LL.length = n) (hpos : 0 < n) (hnb : n ≤ 4194304) {m : Nat} (hm : ∀ L ∈ LL, L.length = m) {kv : Nat} {pK : Option Addr} {cK : Nat} {KS : List (Int × Bool)} (hkv : Bk W kv 25 [.slice pK KS.length cK]) (hK : Lies kO W pK KS) (hKb : KS.length ≤ 16777216) (hKl : ∀ b o, pK = some ⟨b, o, none⟩ → b ≠ lb) (hin : ∀ k ∈ KS, 0 ≤ k.1 ∧ k.1 < (m : Int)) :
    Calls Tryz.prog 32 #[.slice (some ⟨lb, 0, none⟩) n n, .func (.func 54) #[] #[.pointer (some ⟨kv, 0, none⟩)]] W (SortOut W lb KS LL) := by
  have hsl : ss.length = n := by rw [h.len, hn]
  have instI : Inhabited (Fin n) := ⟨⟨0, hpos⟩⟩
  have hsv : ∀ i : Fin n, ∃ p c, ss[i.1]'(by rw [hsl]; exact i.2) = .slice p (LL[i.1]'(by rw [hn]; exact i.2)).length c ∧ Lies kC W p (LL[i.1]'(by rw [hn]; exact i.2)) ∧ ∀ b o, p = some ⟨b, o, none⟩ → b ≠ lb ∧ b < W.heap.size := fun i => by
    obtain ⟨p, c, h1, h2, h3⟩ := h.at' i.1 (by rw [hn]; exact i.2)
    exact ⟨p, c, (List.getElem?_eq_some_iff.1 h1).2, h2, h3⟩
  obtain ⟨enc, henc⟩ : ∃ enc : Fin n → Value, enc = fun i => ss[i.1]'(by rw [hsl]; exact i.2) := ⟨_, rfl⟩
  obtain ⟨fL, hfL⟩ : ∃ fL : Fin n → List Cl, fL = fun i => LL[i.1]'(by rw [hn]; exact i.2) := ⟨_, rfl⟩
  -- the sort
  have hev : ∀ i, enc i = ss[i.1]'(by rw [hsl]; exact i.2) := fun i => by rw [henc]
  have hfv : ∀ i, fL i = LL[i.1]'(by rw [hn]; exact i.2) := fun i => by rw [hfL]
  have hone : OneCell enc := fun x => by
    obtain ⟨p, c, h1, _⟩ := hsv x
    rw [hev, h1]; rfl
  have hds : (Array.ofFn (fun i : Fin n => i)).size = n := Array.size_ofFn
  have hdj : ∀ j (hj : j < n), (Array.ofFn (fun i : Fin n => i))[j]! = ⟨j, hj⟩ := fun j hj => by
    rw [getElem!_pos _ j (by rw [hds]; exact hj)]
    simp
  have hH : Holds enc W lb 0 (Array.ofFn (fun i : Fin n => i)) := fun j hj => by
    rw [hds] at hj
    rw [hdj j hj, hev, Nat.zero_add]
    refine ⟨?_, by simp [World.frozen?, show W.heap[lb]? = some _ from h.blk]⟩
    rw [h.blk.cell, List.getElem?_eq_getElem (by rw [hsl]; exact hj)]
  have hkl : kv ≠ lb := ne_type hkv h.blk (by decide)
  have hcmp : CmpLays1 Tryz.prog 54 #[.pointer (some ⟨kv, 0, none⟩)] enc (fun x y => cmpK KS (fL x) (fL y)) lb 0 (Array.ofFn (fun i : Fin n => i)).size W := fun mm os dk hdk x y => by
    obtain ⟨p1, c1, h1, h2, h3⟩ := hsv x
    obtain ⟨p2, c2, g1, g2, g3⟩ := hsv y
    have hfr := fr_sort enc W lb 0 mm dk os
    show Calls Tryz.prog 54 _ _ fun e w' => e = .returned (.int .i64 (cmpK KS (fL x) (fL y))) ∧ _
    rw [hev x, hev y, h1, g1, hfv x, hfv y]
    have hx : (LL[x.1]'(by rw [hn]; exact x.2)).length = m := hm _ (List.getElem_mem _)
    have hy : (LL[y.1]'(by rw [hn]; exact y.2)).length = m := hm _ (List.getElem_mem _)
    exact (cmp54 (cA := c1) (cB := c2) (hkv.same (hfr.block _ hkv.lt hkl)) (hK.fr hfr (fun b o e => hKl b o e)) rfl hKb (h2.fr hfr (fun b o e => (h3 b o e).1)) rfl (g2.fr hfr (fun b o e => (g3 b o e).1)) rfl (fun k hk => by rw [hx, hy]; exact ⟨(hin k hk).1, (hin k hk).2, (hin k hk).2⟩)).mono fun e w' hh => hh
  have hlb := h.blk.lt
  have hcon := Any.slices_SortFunc Tryz.sortL enc hone (fun x y => cmpK KS (fL x) (fL y)) (swoK fL KS) 54 #[.pointer (some ⟨kv, 0, none⟩)] lb 0 n (Array.ofFn (fun i : Fin n => i)) W eg54' hcmp hH hlb (by rw [hds]; omega)
  change Calls Tryz.prog 32 _ _ _ at hcon
  rw [hds] at hcon
  refine hcon.mono ?_
  rintro e w' ⟨rfl, d', q, os, hp, hs, rfl⟩
  have hd : d'.size = n := by rw [hp.1, hds]
  have hHo := holds_sortWorld enc W lb 0 q (Array.ofFn (fun i : Fin n => i)) d' os hlb hH (by rw [hd, hds])
  have hfr := fr_sort enc W lb 0 q d' os
  refine ⟨rfl, hfr, d'.toList.map fL, ?_, ?_, ?_, fun i hi => ?_⟩
  · have h3 := hp.2.2
    have e1 : d'.extract 0 n = d' := extract_all d' n hd
    have e2 : (Array.ofFn (fun i : Fin n => i)).extract 0 n = Array.ofFn (fun i : Fin n => i) := extract_all _ n hds
    rw [e1, e2] at h3
    have h4 := h3.map fL
    have e3 : (Array.ofFn (fun i : Fin n => i)).toList.map fL = LL := by
      apply List.ext_getElem
      · simp [hn]
      · intro i h1 h2
        simp [hfv]
    rw [e3] at h4
    exact h4
  · rw [List.pairwise_map, List.pairwise_iff_getElem]
    intro i j hi hj hij
    have hi' : i < d'.size := by simpa using hi
    have hj' : j < d'.size := by simpa using hj
    have := hs i j (Nat.zero_le _) hij (by omega)
    rw [getElem!_pos d' i hi', getElem!_pos d' j hj'] at this
    have h5 : ¬ cmpK KS (fL d'[j]) (fL d'[i]) < 0 := of_decide_eq_false this
    simpa using h5
  · exact Nat.lt_of_lt_of_le hlb hfr.size
  · have hi' : i < d'.size := by simpa using hi
    obtain ⟨p, c, h1, h2, h3⟩ := hsv d'[i]
    have hc := (hHo i hi').1
    rw [getElem!_pos d' i hi', hev, h1, Nat.zero_add] at hc
    have e : (d'.toList.map fL)[i] = LL[d'[i].1]'(by rw [hn]; exact d'[i].2) := by simp [hfv]
    rw [e]
    exact ⟨p, c, hc, h2.fr hfr (fun b o e => (h3 b o e).1)⟩
end Go.Proofs.YtbenciieenbmeaaGreatDoor
