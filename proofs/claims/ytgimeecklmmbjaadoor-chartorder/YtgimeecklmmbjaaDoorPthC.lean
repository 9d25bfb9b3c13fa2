/- chart: upwards (23), Root (12), Under (8). -/
import Derived.Test.YtgimeecklmmbjaaDoorPthB
import Derived.RangeFuncFrom
import Derived.RangeFuncNested
namespace Go.Proofs.YtgimeecklmmbjaaDoor
open Go Go.RowKit Go.Shelf Go.ChangeShapes Go.WideShapes Go.ChangeAt Go.Maps
set_option linter.unusedVariables false
attribute [local go_sem] Oper.semAt_some
set_option maxHeartbeats 1000000 in
theorem upwards_any (s : ByteArray) (w : World) : Calls Tryd.prog 35 #[.string s] w fun e w' => e = .returned (.func (.func 48) #[] #[.pointer (some ⟨w.heap.size, 0, none⟩)]) ∧ w' = w.alloc (.cells #[.string s] 9) := by
  go_enter Tryd.func35, Tryd.ntmps35
  go_wp2_with fail
  go_ret
  exact ⟨rfl, rfl⟩
theorem enters82 : ∀ args w, (callFunc 48 args).run Tryd.prog w = .ok (.enter 48 args) w := by
  exact enters_of Tryd.func48 (by kernel_rfl) rfl
def lastS (l : List (List UInt8)) : ByteArray := ⟨(l.getLastD []).toArray⟩
set_option maxRecDepth 100000 in
set_option maxHeartbeats 4000000 in
theorem root_any (s : ByteArray) (hs : s.size < 4611686018427387904) (w : World) : Calls Tryd.prog 20 #[.string s] w fun e w' => e = .returned (.string (lastS (pathL s.data.toList))) ∧ Below w.heap.size w w' := by
  refine (callsIn_wide (n := 3)).1 ?_
  refine callsIn_of_wp_marks Tryd.func20 rfl trivial ?_ rfl
  simp only [Tryd.ntmps20, List.size_toArray, List.length_cons, List.length_nil, Nat.reduceAdd, Nat.reduceSub, Array.replicate_succ, Array.replicate_zero, List.push_toArray, List.append_toArray, List.nil_append, List.cons_append]
  gi_wp2_with fail
  refine ⟨trivial, (callsIn_wide.2 (upwards_any s _)).mono ?_⟩
  rintro e w1 ⟨rfl, hw⟩
  have b1 : Boxed w1 w.heap.size 9 (.string (lastS [])) := by rw [hw]; exact (Boxed.new w 9 (.string (lastS []))).alloc _
  have b2 : w1.cell? ⟨w.heap.size + 1, 0, none⟩ = some (.string s) := by
    have h := (Boxed.new (w.alloc (.cells #[.string ⟨#[]⟩] 9)) 9 (.string s)).cell
    rw [World.size_alloc] at h
    rw [hw]
    exact h
  have hB : Below w.heap.size w w1 := by rw [hw]; exact ((Below.refl _ w).alloc (Nat.le_refl _) _).alloc (by simp) _
  have hz1 : w1.heap.size = w.heap.size + 1 + 1 := by rw [hw]; simp
  have hseq := hide (up_stops s hs (w.heap.size + 1) w1 b2 2 (by omega))
  have Hb1 := hide b1; have HB := hide hB
  rw [World.size_alloc]
  clear hw b1 b2 hB
  gi_wp2_with fail
  refine wpIn_rangeFunc_ownF (Kp := KeepsWalks) (w0 := w1) rfl (by omega) (gf := 48) (lb := #[.pointer (some ⟨w.heap.size + 1, 0, none⟩)]) rfl trivial enters82 (unhide hseq) (fun h k => h.trans k) ?kb (Below.refl _ _) (fun _ => rfl)
    (fun pre W => Boxed W w.heap.size 9 (.string (lastS pre)) ∧ Below w.heap.size w W) (fun _ _ _ => False)
    ?own ?ownx ?start
    (fun x => { tmps := #[.string s, undef, .string ⟨#[]⟩, .pointer (some ⟨w.heap.size, 0, none⟩), encStr x, .string s, .func (.func 48) #[] #[.pointer (some ⟨w.heap.size + 1, 0, none⟩)], encStr x, undef, undef], defers := [] }) ?assign ?body ?done ?stop
  case kb => exact fun W l o o' _ h _ hw => KeepsWalks.putObj _ h hw
  case own => exact OwnFrom.and (Own.from (boxed_own w.heap.size 9 (fun pre => .string (lastS pre))) _) (ownFrom_below (Nat.le_refl _) (by omega))
  case ownx => exact fun c s A B row hs _ _ => hs.elim
  case start => exact ⟨unhide Hb1, unhide HB⟩
  case assign =>
    intro l x W K hK
    gi_wp2
    exact hK
  case body =>
    rintro l pre x W ⟨hv, hb⟩ _
    have hc := hv.cell
    have hf := hv.frozen
    gi_wp2
    refine ⟨KeepsOthers.setCell _ _ _, (KeepsOthers.setCell _ _ _).walks, ?_, hb.setCell (Nat.le_refl _) _⟩
    have e : lastS (pre ++ [x]) = ⟨x.toArray⟩ := by simp [lastS]
    rw [e]
    exact hv.set _
  case done =>
    rintro D xs W hD rfl ⟨hv, hb⟩ hK
    have hc := hv.cell
    gi_wp2
    refine ⟨by simp, .inl ⟨_, _, rfl, run_takeDeferred hK, ?_⟩⟩
    refine ⟨_, results_tmp rfl _ _ _, rfl, hb.trans (belowK_b (w := w) (Nat.le_refl _) W D _ _ (by omega) hK rfl rfl)⟩
  case stop => exact fun D c pre W _ _ h _ => h.elim
theorem result8 {tmps : Array Value} {w : World} {a : Addr} {b : Bool} (hp : tmps[4]?.getD undef = .pointer (some a)) (hc : w.cell? a = some (.bool b)) : (results Tryd.f17 tmps).run Tryd.prog w = .ok (.bool b) w := by
  simp [results, hp, asAddr, go_sem, hc]
/-- whether one stands above the other -/
def undS (s t : ByteArray) : Bool := decide (t.data.toList ∈ pathL s.data.toList)
set_option maxRecDepth 100000 in
set_option maxHeartbeats 4000000 in
theorem under_any (s t : ByteArray) (hs : s.size < 4611686018427387904) (w : World) : Calls Tryd.prog 17 #[.string s, .string t] w fun e w' => e = .returned (.bool (undS s t)) ∧ Below w.heap.size w w' := by
  refine (callsIn_wide (n := 3)).1 ?_
  refine callsIn_of_wp_marks Tryd.func17 rfl trivial ?_ rfl
  simp only [Tryd.ntmps17, List.size_toArray, List.length_cons, List.length_nil, Nat.reduceAdd, Nat.reduceSub, Array.replicate_succ, Array.replicate_zero, List.push_toArray, List.append_toArray, List.nil_append, List.cons_append]
  gi_wp2_with fail
  refine ⟨trivial, (callsIn_wide.2 (upwards_any s _)).mono ?_⟩
  rintro e w1 ⟨rfl, hw⟩
  have b1 : Boxed w1 w.heap.size 9 (.string t) := by rw [hw]; exact ((Boxed.new w 9 (.string t)).alloc _).alloc _
  have b2 : Boxed w1 (w.heap.size + 1) 4 (.bool false) := by
    have h := (Boxed.new (w.alloc (.cells #[.string t] 9)) 4 (.bool false)).alloc (.cells #[.string s] 9)
    rw [World.size_alloc] at h
    rw [hw]
    exact h
  have b3 : w1.cell? ⟨w.heap.size + 1 + 1, 0, none⟩ = some (.string s) := by
    have h := (Boxed.new ((w.alloc (.cells #[.string t] 9)).alloc (.cells #[.bool false] 4)) 9 (.string s)).cell
    rw [World.size_alloc, World.size_alloc] at h
    rw [hw]
    exact h
  have hB : Below w.heap.size w w1 := by rw [hw]; exact (((Below.refl _ w).alloc (Nat.le_refl _) _).alloc (by simp) _).alloc (by simp; omega) _
  have hz1 : w1.heap.size = w.heap.size + 1 + 1 + 1 := by rw [hw]; simp
  have hseq := hide (up_stops s hs (w.heap.size + 1 + 1) w1 b3 2 (by omega))
  have Hb1 := hide b1; have Hb2 := hide b2; have HB := hide hB
  rw [World.size_alloc, World.size_alloc]
  clear hw b1 b2 b3 hB
  gi_wp2_with fail
  refine wpIn_rangeFunc_ownF (Kp := KeepsWalks) (w0 := w1) rfl (by omega) (gf := 48) (lb := #[.pointer (some ⟨w.heap.size + 1 + 1, 0, none⟩)]) rfl trivial enters82 (unhide hseq) (fun h k => h.trans k) ?kb (Below.refl _ _) (fun _ => rfl)
    (fun pre W => ((Boxed W w.heap.size 9 (.string t) ∧ Boxed W (w.heap.size + 1) 4 (.bool false)) ∧ t.data.toList ∉ pre) ∧ Below w.heap.size w W) (fun c pre W => (Boxed W (w.heap.size + 1) 4 (.bool true) ∧ (c = .ret ∧ t.data.toList ∈ pre)) ∧ Below w.heap.size w W)
    ?own ?ownx ?start
    (fun x => { tmps := #[.string s, .string t, undef, .pointer (some ⟨w.heap.size, 0, none⟩), .pointer (some ⟨w.heap.size + 1, 0, none⟩), encStr x, .string s, .func (.func 48) #[] #[.pointer (some ⟨w.heap.size + 1 + 1, 0, none⟩)], encStr x, undef, undef, undef], defers := [] }) ?assign ?body ?done ?stop
  case kb => exact fun W l o o' _ h _ hw => KeepsWalks.putObj _ h hw
  case own => exact OwnFrom.and (OwnFrom.and (OwnFrom.and (Own.from (boxed_own w.heap.size 9 (fun _ => .string t)) _) (Own.from (boxed_own (w.heap.size + 1) 4 (fun _ => .bool false)) _)) (ownFrom_pure _ (fun pre => t.data.toList ∉ pre))) (ownFrom_below (Nat.le_refl _) (by omega))
  case ownx => exact fun c => OwnFrom.and (OwnFrom.and (Own.from (boxed_own (w.heap.size + 1) 4 (fun _ => .bool true)) _) (ownFrom_pure _ (fun pre => c = .ret ∧ t.data.toList ∈ pre))) (ownFrom_below (Nat.le_refl _) (by omega))
  case start => exact ⟨⟨⟨unhide Hb1, unhide Hb2⟩, by simp⟩, unhide HB⟩
  case assign =>
    intro l x W K hK
    gi_wp2
    exact hK
  case body =>
    rintro l pre x W ⟨⟨⟨hv, hr⟩, hn⟩, hb⟩ _
    have hc := hv.cell
    have hrc := hr.cell
    have hf := hr.frozen
    by_cases hx : x = t.data.toList
    · have hq : (x == t.toList) = true := by rw [Lib.toList_data, hx]; simp
      gi_wp2
      refine ⟨KeepsOthers.setCell _ _ _, ⟨hr.set _, rfl, ?_⟩, hb.setCell (by show w.heap.size ≤ w.heap.size + 1; omega) _⟩
      rw [hx]
      simp
    · have hq : (x == t.toList) = false := by rw [Lib.toList_data]; simpa using hx
      gi_wp2
      refine ⟨KeepsOthers.refl _, (KeepsOthers.refl _).walks, ⟨⟨hv, hr⟩, ?_⟩, hb⟩
      intro hm
      rcases List.mem_append.1 hm with h | h
      · exact hn h
      · simp at h
        exact hx h.symm
  case done =>
    rintro D xs W hD rfl ⟨⟨⟨hv, hr⟩, hn⟩, hb⟩ hK
    have hrc := hr.cell
    have hf := hr.frozen
    gi_wp2
    have hK2 : (W.setCell ⟨w.heap.size + 1, 0, none⟩ (.bool false)).heap[D]? = some (.deferred (some [])) := (Below.heap_setCell _ _ _ _ (by show D ≠ w.heap.size + 1; omega)).trans hK
    have hu : undS s t = false := decide_eq_false hn
    refine ⟨by simp, .inl ⟨_, _, rfl, run_takeDeferred hK2, ?_⟩⟩
    refine ⟨_, result8 (a := ⟨w.heap.size + 1, 0, none⟩) (b := false) rfl ?_, by rw [hu], (hb.setCell (by show w.heap.size ≤ w.heap.size + 1; omega) _).trans (belowK_b (w := w) (Nat.le_refl _) _ D _ _ (by omega) hK2 rfl rfl)⟩
    exact (cell_kept (World.cell?_setCell_same _ _ _ hrc) (grownBy_putObj' _ _ _) (fun r e => by cases e; exact ⟨_, hK2, rfl⟩))
  case stop =>
    rintro D c pre W hD hp ⟨⟨hr, rfl, hm⟩, hb⟩ hK
    have hrc := hr.cell
    gi_wp2
    have hu : undS s t = true := decide_eq_true (hp.subset hm)
    refine ⟨by simp, .inl ⟨_, _, rfl, run_takeDeferred hK, ?_⟩⟩
    refine ⟨_, result8 (a := ⟨w.heap.size + 1, 0, none⟩) (b := true) rfl ?_, by rw [hu], hb.trans (belowK_b (w := w) (Nat.le_refl _) _ D _ _ (by omega) hK rfl rfl)⟩
    exact (cell_kept hrc (grownBy_putObj' _ _ _) (fun r e => by cases e; exact ⟨_, hK, rfl⟩))
end Go.Proofs.YtgimeecklmmbjaaDoor
