/- disk: names (30). -/
import Derived.Test.YtpeohbkigkfcgaaDkL
import Derived.Test.YtpeohbkigkfcgaaIter
namespace Go.Proofs.Ytpeohbkigkfcgaa
open Go Go.Shelf Go.ChangeShapes Go.WideShapes Go.ChangeAt Go.RowKit Go.Maps Go.Sort
set_option linter.unusedVariables false
set_option maxRecDepth 100000 in
set_option maxHeartbeats 4000000 in
theorem names_ok {w : World} {d N n : Nat} {K : Dk} {S : Nat → Prop} {mo : Option Nat} {es : List (Lit × DataW Value)} (h : DiskIs w d N K S mo n es) (hO : OrdF K.A) (hl : K.A.length ≤ 64) :
    Calls Try.prog 30 #[.pointer (some ⟨d, 0, none⟩)] w fun e w' => ∃ v, e = .returned v ∧ w'.ownsRow w.heap.size 9 1 v K.A.length ((K.A.map (·.1)).map encStr) ∧ Below w.heap.size w w' := by
  have c1 := h.at'.c1
  have hes : es.length = K.A.length := h.fs.all.len
  rcases h.at'.files with ⟨rfl, h2⟩ | ⟨b, rfl, hm⟩
  · injection h2 with h2
    subst h2
    have hA : K.A = [] := List.eq_nil_of_length_eq_zero hes.symm
    rw [hA]
    clear h
    refine (callsIn_wide (n := 6)).1 ?_
    have hfK : Fence.wide.fn 48 := trivial
    have hfS : Fence.wide.fn 47 := trivial
    refine callsIn_of_wp Try.func30 rfl trivial ?_ rfl
    simp only [Try.ntmps30, List.size_toArray, List.length_cons, List.length_nil, Nat.reduceAdd, Nat.reduceSub, Array.replicate_succ, Array.replicate_zero, List.push_toArray, List.append_toArray, List.nil_append, List.cons_append]
    gi_wp2_with (first
      | (gi_at_call 48; refine (Try.maps_Keys_48 _ _).mono ?_; rintro e w' ⟨rfl, rfl⟩)
      | (gi_at_call 47; refine (Try.slices_Sorted_keys_nil_47_48 w).mono ?_; rintro e w' ⟨v, ss, rfl, hS, hrow, hnil, hb⟩))
    go_ret
    subst hS
    have hrow : w'.ownsRow (w.alloc (Obj.cells #[Value.map none] 62)).heap.size 9 1 v 0 [] := by simpa using hrow
    exact ⟨v, rfl, row_up hrow (fun q hq => by have := (hrow.lt q hq).1; simp at this; omega), ((Below.refl _ w).alloc (Nat.le_refl _) _).trans (hb.mono (by simp))⟩
  · have HD := hide h
    have hkeys := hide (keys_tie h.fs.all)
    have hsz : Maps.size (DataW.map es) = es.length := rfl
    have hmax : Maps.size (DataW.map es) ≤ maxLen := by rw [hsz]; unfold maxLen; omega
    have hbytes : Maps.size (DataW.map es) * 16 ≤ 140737488355328 := by rw [hsz]; omega
    clear h
    refine (callsIn_wide (n := 6)).1 ?_
    have hfK : Fence.wide.fn 48 := trivial
    have hfS : Fence.wide.fn 47 := trivial
    refine callsIn_of_wp Try.func30 rfl trivial ?_ rfl
    simp only [Try.ntmps30, List.size_toArray, List.length_cons, List.length_nil, Nat.reduceAdd, Nat.reduceSub, Array.replicate_succ, Array.replicate_zero, List.push_toArray, List.append_toArray, List.nil_append, List.cons_append]
    gi_wp2_with (first
      | (gi_at_call 48; refine (Try.maps_Keys_48 _ _).mono ?_; rintro e w' ⟨rfl, rfl⟩)
      | (gi_at_call 47; refine (Try.slices_Sorted_keys_47_48 b n (DataW.map es) fileElem w hm hmax hbytes).mono ?_; rintro e w' ⟨v, ss, rfl, hS, hrow, hnil, hb⟩))
    go_ret
    rw [unhide hkeys] at hS
    have hlen : ss.length = K.A.length := by rw [hS.length_eq, List.length_map]
    have hsort := names_sorted hO hS
    have hsort' : ss.mergeSort (fun x y => decide (x ≤ y)) = K.A.map (·.1) := hsort
    rw [hsort', hlen] at hrow
    exact ⟨v, rfl, row_up hrow (fun q hq => by have := (hrow.lt q hq).1; simp at this; omega), ((Below.refl _ w).alloc (Nat.le_refl _) _).trans (hb.mono (by simp))⟩
end Go.Proofs.Ytpeohbkigkfcgaa
