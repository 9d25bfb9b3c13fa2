/- store: Scan (6). -/
import Derived.Test.YtpeebhddpmggdaaDoorScaC
import Derived.Maps.AppendAt
import Derived.Shelf.RegionOpen
namespace Go.Proofs.YtpeebhddpmggdaaDoor
open Go Go.RowKit Go.Shelf Go.ChangeShapes Go.WideShapes Go.ChangeAt
set_option linter.unusedVariables false
attribute [local go_sem] Oper.semAt_some
theorem scan_leaf {n0 n1 : Nat} {w W W2 : World} {pre : List Fr} {x : Fr} {v' : Value} {A : Prop} (h : A ∧ KeepsFrom n1 W W2 ∧ Kp n0 (n0 + 1 + 1) W W2 ∧ Boxed W2 n0 22 v' ∧ Boxed W2 (n0 + 1) 3 (.int .i64 ((x.at' : Int) + (x.len : Int))) ∧ W2.ownsRow (n0 + 1 + 1 + 1) 23 1 v' (pre.length + 1) (pre.map Fr.rcd ++ [x.rcd])) (hb : Below n0 w W) :
    KeepsFrom n1 W W2 ∧ Kp n0 (n0 + 1 + 1) W W2 ∧ ((∃ v, Boxed W2 n0 22 v ∧ W2.ownsRow (n0 + 1 + 1 + 1) 23 1 v (pre ++ [x]).length ((pre ++ [x]).map Fr.rcd) ∧ True) ∧ Boxed W2 (n0 + 1) 3 (.int .i64 (endN (pre ++ [x]) : Int))) ∧ Below n0 w W2 := by
  obtain ⟨_, h1, h2, h3, h4, h5⟩ := h
  refine ⟨h1, h2, ⟨⟨v', h3, ?_, trivial⟩, ?_⟩, hb.trans h2.below⟩
  · simpa using h5
  · rw [endN_snoc, Int.natCast_add]
    exact h4
def ScanOut (f : Nat → Nat) (n : Nat) (w : World) (e : Ending) (w' : World) : Prop :=
  ∃ (v : Value) (xs : List Fr) (o : Nat), e = .returned (.tuple #[v, .int .i64 (o : Int)]) ∧ Pre f n xs o ∧ ¬ Whole (sh f o) (n - o) ∧ w'.ownsRow w.heap.size 23 1 v xs.length (xs.map Fr.rcd) ∧ (∀ x ∈ xs, x.Shown f w.heap.size w') ∧ Below w.heap.size w w'
set_option maxRecDepth 100000 in
set_option maxHeartbeats 4000000 in
theorem scan_any (f : Nat → Nat) (hf : ∀ k, f k < 256) (pa : Option Addr) (n cap : Nat) (hcap : n ≤ cap) (hn : n ≤ 40000000000000) (w : World) (hL : BLies f (.slice pa n cap) n w) (hS : Stp w) : Calls Tryd.prog 6 #[.slice pa n cap] w fun e w' => ScanOut f n w e w' := by
  obtain ⟨i0, hi, hz0, hz1, hz2⟩ := info_parts info23
  have hg0 : 0 < w.heap.size := by
    unfold Stp Lib.TabIs World.var? at hS
    rw [stp_no] at hS
    simp only [Option.bind_some] at hS
    rcases Nat.lt_or_ge 0 w.heap.size with h' | h'
    · exact h'
    · rw [Array.getElem?_eq_none h'] at hS; cases hS
  have hbn : ∀ a, pa = some a → 0 < n → a.block < w.heap.size := by
    rintro a rfl h
    rcases hL with ⟨_, h2⟩ | ⟨b, off, cap', h1, h2, _⟩
    · cases h2
    · simp only [Value.slice.injEq, Option.some.injEq, true_and] at h1
      rw [h1.1]
      exact h2 h
  refine (callsIn_wide (n := 3)).1 ?_
  refine callsIn_of_wp_marks Tryd.func6 rfl trivial ?_ rfl
  simp only [Tryd.ntmps6, List.size_toArray, List.length_cons, List.length_nil, Nat.reduceAdd, Nat.reduceSub, Array.replicate_succ, Array.replicate_zero, List.push_toArray, List.append_toArray, List.nil_append, List.cons_append]
  gi_wp2_with fail
  refine ⟨trivial, ?_⟩
  refine (frames_in _ rfl _).mono ?_
  rintro e w1 ⟨rfl, hw⟩
  have b1 : Boxed w1 w.heap.size 22 (.slice none 0 0) := by rw [hw]; exact ((Boxed.new w 22 (.slice none 0 0)).alloc _).alloc _
  have b2 : Boxed w1 (w.heap.size + 1) 3 (.int .i64 0) := by
    have h := (Boxed.new (w.alloc (.cells #[.slice none 0 0] 22)) 3 (.int .i64 0)).alloc (.cells #[.slice pa n cap] 23)
    rw [World.size_alloc] at h
    rw [hw]
    exact h
  have b3 : w1.cell? ⟨w.heap.size + 1 + 1, 0, none⟩ = some (.slice pa n cap) := by
    have h := (Boxed.new ((w.alloc (.cells #[.slice none 0 0] 22)).alloc (.cells #[.int .i64 0] 3)) 23 (.slice pa n cap)).cell
    rw [World.size_alloc, World.size_alloc] at h
    rw [hw]
    exact h
  have hB : Below w.heap.size w w1 := by rw [hw]; exact (((Below.refl _ w).alloc (Nat.le_refl _) _).alloc (by simp) _).alloc (by simp; omega) _
  have hz1' : w1.heap.size = w.heap.size + 1 + 1 + 1 := by rw [hw]; simp
  have hseq := hide (iter_tells f hf pa n cap hcap (by omega) w.heap.size (w.heap.size + 1 + 1) w1 b3 (hL.below hB) (hS.below hB) hbn hB.size hg0)
  have HI := hide hi; have HZ0 := hide hz0; have HZ1 := hide hz1; have HZ2 := hide hz2
  have Hb1 := hide b1; have Hb2 := hide b2; have HB := hide hB
  clear hw b1 b2 hB b3 hi hz0 hz1 hz2
  gi_wp2_with fail
  refine range_tells rfl (by omega) (gf := 10) (lb := #[.pointer (some ⟨w.heap.size + 1 + 1, 0, none⟩)]) rfl trivial (enters_of Tryd.func10 (by kernel_rfl) rfl) (unhide hseq) (fun h k => h.trans k) ?kb (fun _ => rfl)
    (fun pre W => ((∃ v, Boxed W w.heap.size 22 v ∧ W.ownsRow (w.heap.size + 1 + 1 + 1) 23 1 v pre.length (pre.map Fr.rcd) ∧ True) ∧ Boxed W (w.heap.size + 1) 3 (.int .i64 (endN pre : Int))) ∧ Below w.heap.size w1 W)
    ?own ?ownC ?ownS ?start
    (fun x => { tmps := #[.slice pa n cap, undef, .slice none 0 0, .int .i64 0, .pointer (some ⟨w.heap.size, 0, none⟩), .pointer (some ⟨w.heap.size + 1, 0, none⟩), .int .i64 (x.at' : Int), .slice (some ⟨x.blk, 0, none⟩) x.len x.cap, .slice pa n cap, .func (.func 10) #[] #[.pointer (some ⟨w.heap.size + 1 + 1, 0, none⟩)], .int .i64 (x.at' : Int), .slice (some ⟨x.blk, 0, none⟩) x.len x.cap, undef, undef, undef, undef, undef, undef, undef, undef, undef, undef, undef], defers := [] }) ?assign ?body ?done
  case kb =>
    intro W l o o' hl ho hc
    refine ⟨⟨rfl, rfl, rfl, by simp, fun k hk => World.putObj_heap_other (by omega)⟩, World.putObj_heap_other (by omega), fun q c z hq => ?_⟩
    by_cases e : q = l
    · subst e
      rw [hq] at ho
      cases ho
      cases hc
    · exact (World.putObj_heap_other e).trans hq
  case own =>
    exact OwnFrom.and (OwnFrom.and (Own.from (holdsRow_own (w.heap.size + 1 + 1 + 1) w.heap.size 22 23 1 (fun pre : List Fr => pre.length) (fun pre : List Fr => pre.map Fr.rcd) (fun (pre : List Fr) v => True)) _) (Own.from (boxed_own (w.heap.size + 1) 3 (fun pre : List Fr => .int .i64 (endN pre : Int))) _)) (ownFrom_below (by omega) (by omega))
  case ownC =>
    intro pre x s A B row hs hg hr
    exact ⟨shown_kept hs.1 (fun q c z hq => (grownBy_keeps_cells hg (fun r e => (hr r e).2) hq rfl).trans hq), hs.2⟩
  case ownS =>
    rintro xs A B row ⟨o, h1, h2, h3⟩ hg hr
    exact ⟨o, h1, h2, fun x hx => shown_kept (h3 x hx) (fun q c z hq => (grownBy_keeps_cells hg (fun r e => (hr r e).2) hq rfl).trans hq)⟩
  case start => exact ⟨⟨⟨_, unhide Hb1, World.ownsRow_nil _ _ _ _, trivial⟩, unhide Hb2⟩, Below.refl _ _⟩
  case assign =>
    intro l x W K hK
    simp only [Fr.enc]
    gi_wp2
    exact hK
  case body =>
    rintro l pre x W ⟨⟨⟨v, hv, hrow, _⟩, he⟩, hb⟩ ⟨hx, hpx⟩
    have hcnt := hpx.count
    have hle := hpx.le
    simp only [List.length_append, List.length_cons, List.length_nil] at hcnt
    have hc := hv.cell
    have hlo := x.lo
    have hhi := x.hi
    have i1 : (8 : Int) ≤ (x.len : Int) := by omega
    have i2 : (x.len : Int) ≤ (x.cap : Int) := by omega
    have hmx : Tryd.prog.follows .mixedOrders = true := by kernel_rfl
    have hrowd : W.drew.ownsRow (w.heap.size + 1 + 1 + 1) 23 1 v pre.length (pre.map Fr.rcd) := hrow
    have hcd : W.drew.cell? ⟨w.heap.size, 0, none⟩ = some v := hc
    have hca : ∀ o, (W.alloc o).cell? ⟨w.heap.size, 0, none⟩ = some v := fun o => (hv.alloc o).cell
    have hsm := x.sm
    have hsz3 : w.heap.size + 3 ≤ W.heap.size := by have := hb.size; omega
    have HHC := hide hcnt; have HHL := hide hle; have HHN := hide hn
    have HBB := hide hb
    clear hpx hx hcnt
    by_cases hc8 : x.cap = 8
    · have hrc : x.rcd = .slice (some ⟨x.blk, 0, none⟩) (x.len - 8) 0 := by unfold Fr.rcd; rw [if_pos hc8]
      gi_wp2
      refine wpIn_region_any (by assumption) ?_
      change wpAnyIn _ _ _ _ _ _ _ _ _ (World.drew _)
      refine wpAnyIn_ready (rs := [0, 1]) (by kernel_rfl) (by simp) ?_
      refine AllReadyIn.cons rfl (fun K hK => ?_) (AllReadyIn.cons rfl (fun K hK => ?_) AllReadyIn.nil)
      · go_simp
        refine hK _ _ ?_; clear hK K
        refine wpAnyIn_ready (rs := [1]) (by kernel_rfl) (by simp) ?_
        refine AllReadyIn.cons rfl (fun K hK => ?_) AllReadyIn.nil
        go_simp
        refine hK _ _ ?_; clear hK K
        refine wpAnyIn_ready (rs := [2]) (by kernel_rfl) (by simp) ?_
        refine AllReadyIn.cons rfl (fun K hK => ?_) AllReadyIn.nil
        go_simp
        refine hK _ _ ?_; clear hK K
        refine wpAnyIn_ready (rs := [3]) (by kernel_rfl) (by simp) ?_
        refine AllReadyIn.cons rfl (fun K hK => ?_) AllReadyIn.nil
        go_simp
        refine hK _ _ ?_; clear hK K
        refine wpAnyIn_ready (rs := [4]) (by kernel_rfl) (by simp) ?_
        refine AllReadyIn.cons rfl (fun K hK => ?_) AllReadyIn.nil
        refine step_append_in _ rfl _ _ 22 rfl (w.heap.size + 1 + 1 + 1) 23 i0 (.slice none 0 0) 1 24 Tryd.underlying22 (unhide HI) (unhide HZ0) (unhide HZ1) (unhide HZ2) rfl (by decide) _ _ _ rfl (hrowd.alloc _) ⟨W.drew.heap.size, 0, none⟩ 1 1 [x.rcd] rfl rfl (by rw [hrc]; exact cell_one_new _ _ _) (by intro u hu; simp only [List.mem_cons, List.not_mem_nil, or_false] at hu; rw [hu]; exact rec_one x) (by have := unhide HHC; have := unhide HHN; have := unhide HHL; unfold maxLen; omega) (by have := unhide HHC; have := unhide HHN; have := unhide HHL; omega) (by simp; omega) ?_
        intro v' w2 hown' hgrow
        obtain ⟨g', cap', rfl⟩ := ownsRow_succ hown'
        have hfin := hide (body_end (n1 := w.heap.size + 1 + 1 + 1) (E := .int .i64 ((x.at' : Int) + (x.len : Int))) hsz3 hv he hrow hown' hgrow)
        have hc1 := (unhide hfin).1.1.cell; have hf1 := (unhide hfin).1.1.frozen
        have hc2 : (w2.setCell ⟨w.heap.size, 0, none⟩ (.slice (some ⟨g', 0, none⟩) (pre.length + 1) cap')).cell? ⟨w.heap.size + 1, 0, none⟩ = some (.int .i64 (endN pre : Int)) := ((unhide hfin).1.2.other (by omega) _).cell
        have hf2 : (w2.setCell ⟨w.heap.size, 0, none⟩ (.slice (some ⟨g', 0, none⟩) (pre.length + 1) cap')).frozen? ⟨w.heap.size + 1, 0, none⟩ = false := ((unhide hfin).1.2.other (by omega) _).frozen
        refine hK _ _ ?_; clear hK K
        clear hgrow hown'
        refine wpAnyIn_ready (rs := [5]) (by kernel_rfl) (by simp) ?_
        refine AllReadyIn.cons rfl (fun K hK => ?_) AllReadyIn.nil
        go_simp
        refine hK _ _ ?_; clear hK K
        refine wpAnyIn_done (by kernel_rfl) ?_ _
        gi_wp2
        (have hLF := scan_leaf (unhide hfin) (unhide HBB); simp only [List.length_append, List.length_cons, List.length_nil, List.map_append, List.map_cons, List.map_nil, Nat.zero_add, and_true, hrc] at hLF ⊢; exact hLF)
      · go_simp
        refine hK _ _ ?_; clear hK K
        refine wpAnyIn_ready (rs := [0, 2]) (by kernel_rfl) (by simp) ?_
        refine AllReadyIn.cons rfl (fun K hK => ?_) (AllReadyIn.cons rfl (fun K hK => ?_) AllReadyIn.nil)
        · go_simp
          refine hK _ _ ?_; clear hK K
          refine wpAnyIn_ready (rs := [2]) (by kernel_rfl) (by simp) ?_
          refine AllReadyIn.cons rfl (fun K hK => ?_) AllReadyIn.nil
          go_simp
          refine hK _ _ ?_; clear hK K
          refine wpAnyIn_ready (rs := [3]) (by kernel_rfl) (by simp) ?_
          refine AllReadyIn.cons rfl (fun K hK => ?_) AllReadyIn.nil
          go_simp
          refine hK _ _ ?_; clear hK K
          refine wpAnyIn_ready (rs := [4]) (by kernel_rfl) (by simp) ?_
          refine AllReadyIn.cons rfl (fun K hK => ?_) AllReadyIn.nil
          refine step_append_in _ rfl _ _ 22 rfl (w.heap.size + 1 + 1 + 1) 23 i0 (.slice none 0 0) 1 24 Tryd.underlying22 (unhide HI) (unhide HZ0) (unhide HZ1) (unhide HZ2) rfl (by decide) _ _ _ rfl (hrowd.alloc _) ⟨W.drew.heap.size, 0, none⟩ 1 1 [x.rcd] rfl rfl (by rw [hrc]; exact cell_one_new _ _ _) (by intro u hu; simp only [List.mem_cons, List.not_mem_nil, or_false] at hu; rw [hu]; exact rec_one x) (by have := unhide HHC; have := unhide HHN; have := unhide HHL; unfold maxLen; omega) (by have := unhide HHC; have := unhide HHN; have := unhide HHL; omega) (by simp; omega) ?_
          intro v' w2 hown' hgrow
          obtain ⟨g', cap', rfl⟩ := ownsRow_succ hown'
          have hfin := hide (body_end (n1 := w.heap.size + 1 + 1 + 1) (E := .int .i64 ((x.at' : Int) + (x.len : Int))) hsz3 hv he hrow hown' hgrow)
          have hc1 := (unhide hfin).1.1.cell; have hf1 := (unhide hfin).1.1.frozen
          have hc2 : (w2.setCell ⟨w.heap.size, 0, none⟩ (.slice (some ⟨g', 0, none⟩) (pre.length + 1) cap')).cell? ⟨w.heap.size + 1, 0, none⟩ = some (.int .i64 (endN pre : Int)) := ((unhide hfin).1.2.other (by omega) _).cell
          have hf2 : (w2.setCell ⟨w.heap.size, 0, none⟩ (.slice (some ⟨g', 0, none⟩) (pre.length + 1) cap')).frozen? ⟨w.heap.size + 1, 0, none⟩ = false := ((unhide hfin).1.2.other (by omega) _).frozen
          refine hK _ _ ?_; clear hK K
          clear hgrow hown'
          refine wpAnyIn_ready (rs := [5]) (by kernel_rfl) (by simp) ?_
          refine AllReadyIn.cons rfl (fun K hK => ?_) AllReadyIn.nil
          go_simp
          refine hK _ _ ?_; clear hK K
          refine wpAnyIn_done (by kernel_rfl) ?_ _
          gi_wp2
          (have hLF := scan_leaf (unhide hfin) (unhide HBB); simp only [List.length_append, List.length_cons, List.length_nil, List.map_append, List.map_cons, List.map_nil, Nat.zero_add, and_true, hrc] at hLF ⊢; exact hLF)
        · go_simp
          refine hK _ _ ?_; clear hK K
          refine wpAnyIn_ready (rs := [0, 3]) (by kernel_rfl) (by simp) ?_
          refine AllReadyIn.cons rfl (fun K hK => ?_) (AllReadyIn.cons rfl (fun K hK => ?_) AllReadyIn.nil)
          · go_simp
            refine hK _ _ ?_; clear hK K
            refine wpAnyIn_ready (rs := [3]) (by kernel_rfl) (by simp) ?_
            refine AllReadyIn.cons rfl (fun K hK => ?_) AllReadyIn.nil
            go_simp
            refine hK _ _ ?_; clear hK K
            refine wpAnyIn_ready (rs := [4]) (by kernel_rfl) (by simp) ?_
            refine AllReadyIn.cons rfl (fun K hK => ?_) AllReadyIn.nil
            refine step_append_in _ rfl _ _ 22 rfl (w.heap.size + 1 + 1 + 1) 23 i0 (.slice none 0 0) 1 24 Tryd.underlying22 (unhide HI) (unhide HZ0) (unhide HZ1) (unhide HZ2) rfl (by decide) _ _ _ rfl (hrowd.alloc _) ⟨W.drew.heap.size, 0, none⟩ 1 1 [x.rcd] rfl rfl (by rw [hrc]; exact cell_one_new _ _ _) (by intro u hu; simp only [List.mem_cons, List.not_mem_nil, or_false] at hu; rw [hu]; exact rec_one x) (by have := unhide HHC; have := unhide HHN; have := unhide HHL; unfold maxLen; omega) (by have := unhide HHC; have := unhide HHN; have := unhide HHL; omega) (by simp; omega) ?_
            intro v' w2 hown' hgrow
            obtain ⟨g', cap', rfl⟩ := ownsRow_succ hown'
            have hfin := hide (body_end (n1 := w.heap.size + 1 + 1 + 1) (E := .int .i64 ((x.at' : Int) + (x.len : Int))) hsz3 hv he hrow hown' hgrow)
            have hc1 := (unhide hfin).1.1.cell; have hf1 := (unhide hfin).1.1.frozen
            have hc2 : (w2.setCell ⟨w.heap.size, 0, none⟩ (.slice (some ⟨g', 0, none⟩) (pre.length + 1) cap')).cell? ⟨w.heap.size + 1, 0, none⟩ = some (.int .i64 (endN pre : Int)) := ((unhide hfin).1.2.other (by omega) _).cell
            have hf2 : (w2.setCell ⟨w.heap.size, 0, none⟩ (.slice (some ⟨g', 0, none⟩) (pre.length + 1) cap')).frozen? ⟨w.heap.size + 1, 0, none⟩ = false := ((unhide hfin).1.2.other (by omega) _).frozen
            refine hK _ _ ?_; clear hK K
            clear hgrow hown'
            refine wpAnyIn_ready (rs := [5]) (by kernel_rfl) (by simp) ?_
            refine AllReadyIn.cons rfl (fun K hK => ?_) AllReadyIn.nil
            go_simp
            refine hK _ _ ?_; clear hK K
            refine wpAnyIn_done (by kernel_rfl) ?_ _
            gi_wp2
            (have hLF := scan_leaf (unhide hfin) (unhide HBB); simp only [List.length_append, List.length_cons, List.length_nil, List.map_append, List.map_cons, List.map_nil, Nat.zero_add, and_true, hrc] at hLF ⊢; exact hLF)
          · go_simp
            refine hK _ _ ?_; clear hK K
            refine wpAnyIn_ready (rs := [0]) (by kernel_rfl) (by simp) ?_
            refine AllReadyIn.cons rfl (fun K hK => ?_) AllReadyIn.nil
            go_simp
            refine hK _ _ ?_; clear hK K
            refine wpAnyIn_ready (rs := [4]) (by kernel_rfl) (by simp) ?_
            refine AllReadyIn.cons rfl (fun K hK => ?_) AllReadyIn.nil
            refine step_append_in _ rfl _ _ 22 rfl (w.heap.size + 1 + 1 + 1) 23 i0 (.slice none 0 0) 1 24 Tryd.underlying22 (unhide HI) (unhide HZ0) (unhide HZ1) (unhide HZ2) rfl (by decide) _ _ _ rfl (hrowd.alloc _) ⟨W.drew.heap.size, 0, none⟩ 1 1 [x.rcd] rfl rfl (by rw [hrc]; exact cell_one_new _ _ _) (by intro u hu; simp only [List.mem_cons, List.not_mem_nil, or_false] at hu; rw [hu]; exact rec_one x) (by have := unhide HHC; have := unhide HHN; have := unhide HHL; unfold maxLen; omega) (by have := unhide HHC; have := unhide HHN; have := unhide HHL; omega) (by simp; omega) ?_
            intro v' w2 hown' hgrow
            obtain ⟨g', cap', rfl⟩ := ownsRow_succ hown'
            have hfin := hide (body_end (n1 := w.heap.size + 1 + 1 + 1) (E := .int .i64 ((x.at' : Int) + (x.len : Int))) hsz3 hv he hrow hown' hgrow)
            have hc1 := (unhide hfin).1.1.cell; have hf1 := (unhide hfin).1.1.frozen
            have hc2 : (w2.setCell ⟨w.heap.size, 0, none⟩ (.slice (some ⟨g', 0, none⟩) (pre.length + 1) cap')).cell? ⟨w.heap.size + 1, 0, none⟩ = some (.int .i64 (endN pre : Int)) := ((unhide hfin).1.2.other (by omega) _).cell
            have hf2 : (w2.setCell ⟨w.heap.size, 0, none⟩ (.slice (some ⟨g', 0, none⟩) (pre.length + 1) cap')).frozen? ⟨w.heap.size + 1, 0, none⟩ = false := ((unhide hfin).1.2.other (by omega) _).frozen
            refine hK _ _ ?_; clear hK K
            clear hgrow hown'
            refine wpAnyIn_ready (rs := [5]) (by kernel_rfl) (by simp) ?_
            refine AllReadyIn.cons rfl (fun K hK => ?_) AllReadyIn.nil
            go_simp
            refine hK _ _ ?_; clear hK K
            refine wpAnyIn_done (by kernel_rfl) ?_ _
            gi_wp2
            (have hLF := scan_leaf (unhide hfin) (unhide HBB); simp only [List.length_append, List.length_cons, List.length_nil, List.map_append, List.map_cons, List.map_nil, Nat.zero_add, and_true, hrc] at hLF ⊢; exact hLF)
    · have hrc : x.rcd = .slice (some ⟨x.blk, 8, none⟩) (x.len - 8) (x.cap - 8) := by unfold Fr.rcd; rw [if_neg hc8]
      gi_wp2
      refine wpIn_region_any (by assumption) ?_
      change wpAnyIn _ _ _ _ _ _ _ _ _ (World.drew _)
      refine wpAnyIn_ready (rs := [0, 1]) (by kernel_rfl) (by simp) ?_
      refine AllReadyIn.cons rfl (fun K hK => ?_) (AllReadyIn.cons rfl (fun K hK => ?_) AllReadyIn.nil)
      · go_simp
        refine hK _ _ ?_; clear hK K
        refine wpAnyIn_ready (rs := [1]) (by kernel_rfl) (by simp) ?_
        refine AllReadyIn.cons rfl (fun K hK => ?_) AllReadyIn.nil
        go_simp
        refine hK _ _ ?_; clear hK K
        refine wpAnyIn_ready (rs := [2]) (by kernel_rfl) (by simp) ?_
        refine AllReadyIn.cons rfl (fun K hK => ?_) AllReadyIn.nil
        go_simp
        refine hK _ _ ?_; clear hK K
        refine wpAnyIn_ready (rs := [3]) (by kernel_rfl) (by simp) ?_
        refine AllReadyIn.cons rfl (fun K hK => ?_) AllReadyIn.nil
        go_simp
        refine hK _ _ ?_; clear hK K
        refine wpAnyIn_ready (rs := [4]) (by kernel_rfl) (by simp) ?_
        refine AllReadyIn.cons rfl (fun K hK => ?_) AllReadyIn.nil
        refine step_append_in _ rfl _ _ 22 rfl (w.heap.size + 1 + 1 + 1) 23 i0 (.slice none 0 0) 1 24 Tryd.underlying22 (unhide HI) (unhide HZ0) (unhide HZ1) (unhide HZ2) rfl (by decide) _ _ _ rfl (hrowd.alloc _) ⟨W.drew.heap.size, 0, none⟩ 1 1 [x.rcd] rfl rfl (by rw [hrc]; exact cell_one_new _ _ _) (by intro u hu; simp only [List.mem_cons, List.not_mem_nil, or_false] at hu; rw [hu]; exact rec_one x) (by have := unhide HHC; have := unhide HHN; have := unhide HHL; unfold maxLen; omega) (by have := unhide HHC; have := unhide HHN; have := unhide HHL; omega) (by simp; omega) ?_
        intro v' w2 hown' hgrow
        obtain ⟨g', cap', rfl⟩ := ownsRow_succ hown'
        have hfin := hide (body_end (n1 := w.heap.size + 1 + 1 + 1) (E := .int .i64 ((x.at' : Int) + (x.len : Int))) hsz3 hv he hrow hown' hgrow)
        have hc1 := (unhide hfin).1.1.cell; have hf1 := (unhide hfin).1.1.frozen
        have hc2 : (w2.setCell ⟨w.heap.size, 0, none⟩ (.slice (some ⟨g', 0, none⟩) (pre.length + 1) cap')).cell? ⟨w.heap.size + 1, 0, none⟩ = some (.int .i64 (endN pre : Int)) := ((unhide hfin).1.2.other (by omega) _).cell
        have hf2 : (w2.setCell ⟨w.heap.size, 0, none⟩ (.slice (some ⟨g', 0, none⟩) (pre.length + 1) cap')).frozen? ⟨w.heap.size + 1, 0, none⟩ = false := ((unhide hfin).1.2.other (by omega) _).frozen
        refine hK _ _ ?_; clear hK K
        clear hgrow hown'
        refine wpAnyIn_ready (rs := [5]) (by kernel_rfl) (by simp) ?_
        refine AllReadyIn.cons rfl (fun K hK => ?_) AllReadyIn.nil
        go_simp
        refine hK _ _ ?_; clear hK K
        refine wpAnyIn_done (by kernel_rfl) ?_ _
        gi_wp2
        (have hLF := scan_leaf (unhide hfin) (unhide HBB); simp only [List.length_append, List.length_cons, List.length_nil, List.map_append, List.map_cons, List.map_nil, Nat.zero_add, and_true, hrc] at hLF ⊢; exact hLF)
      · go_simp
        refine hK _ _ ?_; clear hK K
        refine wpAnyIn_ready (rs := [0, 2]) (by kernel_rfl) (by simp) ?_
        refine AllReadyIn.cons rfl (fun K hK => ?_) (AllReadyIn.cons rfl (fun K hK => ?_) AllReadyIn.nil)
        · go_simp
          refine hK _ _ ?_; clear hK K
          refine wpAnyIn_ready (rs := [2]) (by kernel_rfl) (by simp) ?_
          refine AllReadyIn.cons rfl (fun K hK => ?_) AllReadyIn.nil
          go_simp
          refine hK _ _ ?_; clear hK K
          refine wpAnyIn_ready (rs := [3]) (by kernel_rfl) (by simp) ?_
          refine AllReadyIn.cons rfl (fun K hK => ?_) AllReadyIn.nil
          go_simp
          refine hK _ _ ?_; clear hK K
          refine wpAnyIn_ready (rs := [4]) (by kernel_rfl) (by simp) ?_
          refine AllReadyIn.cons rfl (fun K hK => ?_) AllReadyIn.nil
          refine step_append_in _ rfl _ _ 22 rfl (w.heap.size + 1 + 1 + 1) 23 i0 (.slice none 0 0) 1 24 Tryd.underlying22 (unhide HI) (unhide HZ0) (unhide HZ1) (unhide HZ2) rfl (by decide) _ _ _ rfl (hrowd.alloc _) ⟨W.drew.heap.size, 0, none⟩ 1 1 [x.rcd] rfl rfl (by rw [hrc]; exact cell_one_new _ _ _) (by intro u hu; simp only [List.mem_cons, List.not_mem_nil, or_false] at hu; rw [hu]; exact rec_one x) (by have := unhide HHC; have := unhide HHN; have := unhide HHL; unfold maxLen; omega) (by have := unhide HHC; have := unhide HHN; have := unhide HHL; omega) (by simp; omega) ?_
          intro v' w2 hown' hgrow
          obtain ⟨g', cap', rfl⟩ := ownsRow_succ hown'
          have hfin := hide (body_end (n1 := w.heap.size + 1 + 1 + 1) (E := .int .i64 ((x.at' : Int) + (x.len : Int))) hsz3 hv he hrow hown' hgrow)
          have hc1 := (unhide hfin).1.1.cell; have hf1 := (unhide hfin).1.1.frozen
          have hc2 : (w2.setCell ⟨w.heap.size, 0, none⟩ (.slice (some ⟨g', 0, none⟩) (pre.length + 1) cap')).cell? ⟨w.heap.size + 1, 0, none⟩ = some (.int .i64 (endN pre : Int)) := ((unhide hfin).1.2.other (by omega) _).cell
          have hf2 : (w2.setCell ⟨w.heap.size, 0, none⟩ (.slice (some ⟨g', 0, none⟩) (pre.length + 1) cap')).frozen? ⟨w.heap.size + 1, 0, none⟩ = false := ((unhide hfin).1.2.other (by omega) _).frozen
          refine hK _ _ ?_; clear hK K
          clear hgrow hown'
          refine wpAnyIn_ready (rs := [5]) (by kernel_rfl) (by simp) ?_
          refine AllReadyIn.cons rfl (fun K hK => ?_) AllReadyIn.nil
          go_simp
          refine hK _ _ ?_; clear hK K
          refine wpAnyIn_done (by kernel_rfl) ?_ _
          gi_wp2
          (have hLF := scan_leaf (unhide hfin) (unhide HBB); simp only [List.length_append, List.length_cons, List.length_nil, List.map_append, List.map_cons, List.map_nil, Nat.zero_add, and_true, hrc] at hLF ⊢; exact hLF)
        · go_simp
          refine hK _ _ ?_; clear hK K
          refine wpAnyIn_ready (rs := [0, 3]) (by kernel_rfl) (by simp) ?_
          refine AllReadyIn.cons rfl (fun K hK => ?_) (AllReadyIn.cons rfl (fun K hK => ?_) AllReadyIn.nil)
          · go_simp
            refine hK _ _ ?_; clear hK K
            refine wpAnyIn_ready (rs := [3]) (by kernel_rfl) (by simp) ?_
            refine AllReadyIn.cons rfl (fun K hK => ?_) AllReadyIn.nil
            go_simp
            refine hK _ _ ?_; clear hK K
            refine wpAnyIn_ready (rs := [4]) (by kernel_rfl) (by simp) ?_
            refine AllReadyIn.cons rfl (fun K hK => ?_) AllReadyIn.nil
            refine step_append_in _ rfl _ _ 22 rfl (w.heap.size + 1 + 1 + 1) 23 i0 (.slice none 0 0) 1 24 Tryd.underlying22 (unhide HI) (unhide HZ0) (unhide HZ1) (unhide HZ2) rfl (by decide) _ _ _ rfl (hrowd.alloc _) ⟨W.drew.heap.size, 0, none⟩ 1 1 [x.rcd] rfl rfl (by rw [hrc]; exact cell_one_new _ _ _) (by intro u hu; simp only [List.mem_cons, List.not_mem_nil, or_false] at hu; rw [hu]; exact rec_one x) (by have := unhide HHC; have := unhide HHN; have := unhide HHL; unfold maxLen; omega) (by have := unhide HHC; have := unhide HHN; have := unhide HHL; omega) (by simp; omega) ?_
            intro v' w2 hown' hgrow
            obtain ⟨g', cap', rfl⟩ := ownsRow_succ hown'
            have hfin := hide (body_end (n1 := w.heap.size + 1 + 1 + 1) (E := .int .i64 ((x.at' : Int) + (x.len : Int))) hsz3 hv he hrow hown' hgrow)
            have hc1 := (unhide hfin).1.1.cell; have hf1 := (unhide hfin).1.1.frozen
            have hc2 : (w2.setCell ⟨w.heap.size, 0, none⟩ (.slice (some ⟨g', 0, none⟩) (pre.length + 1) cap')).cell? ⟨w.heap.size + 1, 0, none⟩ = some (.int .i64 (endN pre : Int)) := ((unhide hfin).1.2.other (by omega) _).cell
            have hf2 : (w2.setCell ⟨w.heap.size, 0, none⟩ (.slice (some ⟨g', 0, none⟩) (pre.length + 1) cap')).frozen? ⟨w.heap.size + 1, 0, none⟩ = false := ((unhide hfin).1.2.other (by omega) _).frozen
            refine hK _ _ ?_; clear hK K
            clear hgrow hown'
            refine wpAnyIn_ready (rs := [5]) (by kernel_rfl) (by simp) ?_
            refine AllReadyIn.cons rfl (fun K hK => ?_) AllReadyIn.nil
            go_simp
            refine hK _ _ ?_; clear hK K
            refine wpAnyIn_done (by kernel_rfl) ?_ _
            gi_wp2
            (have hLF := scan_leaf (unhide hfin) (unhide HBB); simp only [List.length_append, List.length_cons, List.length_nil, List.map_append, List.map_cons, List.map_nil, Nat.zero_add, and_true, hrc] at hLF ⊢; exact hLF)
          · go_simp
            refine hK _ _ ?_; clear hK K
            refine wpAnyIn_ready (rs := [0]) (by kernel_rfl) (by simp) ?_
            refine AllReadyIn.cons rfl (fun K hK => ?_) AllReadyIn.nil
            go_simp
            refine hK _ _ ?_; clear hK K
            refine wpAnyIn_ready (rs := [4]) (by kernel_rfl) (by simp) ?_
            refine AllReadyIn.cons rfl (fun K hK => ?_) AllReadyIn.nil
            refine step_append_in _ rfl _ _ 22 rfl (w.heap.size + 1 + 1 + 1) 23 i0 (.slice none 0 0) 1 24 Tryd.underlying22 (unhide HI) (unhide HZ0) (unhide HZ1) (unhide HZ2) rfl (by decide) _ _ _ rfl (hrowd.alloc _) ⟨W.drew.heap.size, 0, none⟩ 1 1 [x.rcd] rfl rfl (by rw [hrc]; exact cell_one_new _ _ _) (by intro u hu; simp only [List.mem_cons, List.not_mem_nil, or_false] at hu; rw [hu]; exact rec_one x) (by have := unhide HHC; have := unhide HHN; have := unhide HHL; unfold maxLen; omega) (by have := unhide HHC; have := unhide HHN; have := unhide HHL; omega) (by simp; omega) ?_
            intro v' w2 hown' hgrow
            obtain ⟨g', cap', rfl⟩ := ownsRow_succ hown'
            have hfin := hide (body_end (n1 := w.heap.size + 1 + 1 + 1) (E := .int .i64 ((x.at' : Int) + (x.len : Int))) hsz3 hv he hrow hown' hgrow)
            have hc1 := (unhide hfin).1.1.cell; have hf1 := (unhide hfin).1.1.frozen
            have hc2 : (w2.setCell ⟨w.heap.size, 0, none⟩ (.slice (some ⟨g', 0, none⟩) (pre.length + 1) cap')).cell? ⟨w.heap.size + 1, 0, none⟩ = some (.int .i64 (endN pre : Int)) := ((unhide hfin).1.2.other (by omega) _).cell
            have hf2 : (w2.setCell ⟨w.heap.size, 0, none⟩ (.slice (some ⟨g', 0, none⟩) (pre.length + 1) cap')).frozen? ⟨w.heap.size + 1, 0, none⟩ = false := ((unhide hfin).1.2.other (by omega) _).frozen
            refine hK _ _ ?_; clear hK K
            clear hgrow hown'
            refine wpAnyIn_ready (rs := [5]) (by kernel_rfl) (by simp) ?_
            refine AllReadyIn.cons rfl (fun K hK => ?_) AllReadyIn.nil
            go_simp
            refine hK _ _ ?_; clear hK K
            refine wpAnyIn_done (by kernel_rfl) ?_ _
            gi_wp2
            (have hLF := scan_leaf (unhide hfin) (unhide HBB); simp only [List.length_append, List.length_cons, List.length_nil, List.map_append, List.map_cons, List.map_nil, Nat.zero_add, and_true, hrc] at hLF ⊢; exact hLF)
  case done =>
    rintro D xs W hD ⟨o, hp, hnw, hsh⟩ ⟨⟨⟨v, hv, hrow, _⟩, he⟩, hb⟩ hK
    have hc := hv.cell
    have hce := he.cell
    have hmx : Tryd.prog.follows .mixedOrders = true := by kernel_rfl
    gi_wp2
    gi_region_o
    all_goals gi_wp2
    all_goals refine ⟨by simp, .inl ⟨_, _, rfl, run_takeDeferred (w := W.drew) hK, ?_⟩⟩
    have hen := hp.end
    have k1 : Below w.heap.size w1 (W.drew.putObj D (.deferred none)) := (show Below w.heap.size w1 W.drew from ⟨hb.os, hb.tape, hb.output, hb.size, hb.block⟩).trans (belowK_b (w := w) (Nat.le_refl _) W.drew D _ _ (by omega) hK rfl rfl)
    refine ⟨_, results_tmp2 rfl _ _ _, v, xs, o, ?_, hp, hnw, ownsRow_putObj (W := W.drew) (own_base hrow (by omega)) _ hK rfl, fun x hx => shown_kept (hsh x hx) (fun q c z hq => ?_), (unhide HB).trans k1⟩
    · rw [← hen]
      rfl
    · refine (World.putObj_heap_other (fun e => ?_)).trans hq
      subst e
      rw [hK] at hq
      cases hq
end Go.Proofs.YtpeebhddpmggdaaDoor
