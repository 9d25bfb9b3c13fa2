import Derived.Test.YtcafhmlpmbkhkaaGreatDoorR05
import Derived.RangeFuncFrom
import Derived.RangeFuncNested
namespace Go.Proofs.YtcafhmlpmbkhkaaGreatDoor.Ch
open Go Go.RowKit Go.Shelf Go.ChangeShapes Go.WideShapes Go.ChangeAt Go.Maps
set_option linter.unusedVariables false
attribute [local go_sem] Oper.semAt_some
def lastS (l : List (List UInt8)) : ByteArray := ⟨(l.getLastD []).toArray⟩
set_option maxRecDepth 100000 in
set_option maxHeartbeats 4000000 in
theorem root_any (s : ByteArray) (hs : s.size < 4611686018427387904) (w : World) : Calls Tryz.prog 189 #[.string s] w fun e w' => e = .returned (.string (lastS (pathL s.data.toList))) ∧ Below w.heap.size w w' := by
  refine (callsIn_wide (n := 3)).1 ?_
  refine callsIn_of_wp_marks Tryz.func189 rfl trivial ?_ rfl
  simp only [Tryz.ntmps189, List.size_toArray, List.length_cons, List.length_nil, Nat.reduceAdd, Nat.reduceSub, Array.replicate_succ, Array.replicate_zero, List.push_toArray, List.append_toArray, List.nil_append, List.cons_append]
  gi_wp2_with fail
  refine ⟨trivial, (callsIn_wide.2 (upwards_any s _)).mono ?_⟩
  rintro e w1 ⟨rfl, hw⟩
  have b1 : Boxed w1 w.heap.size 9 (.string (lastS [])) := by rw [hw]; exact (Boxed.new w 9 (.string (lastS []))).alloc _
  have b2 : w1.cell? ⟨w.heap.size + 1, 0, none⟩ = some (.string s) := by
    have h := (Boxed.new (w.alloc (.cells #[.string ⟨#[]⟩] 9)) 9 (.string s)).cell
    rw [World.size_alloc] at h
    rw [hw]
    exact h
  have hB : Below w.heap.size w w1 := by rw [hw]; exact ((Below.refl _ w).alloc (Nat.le_refl _) _).alloc (by simp) _
  have hz1 : w1.heap.size = w.heap.size + 1 + 1 := by rw [hw]; simp
  have hseq := hide (up_stops s hs (w.heap.size + 1) w1 b2 2 (by omega))
  have Hb1 := hide b1; have HB := hide hB
  rw [World.size_alloc]
  clear hw b1 b2 hB
  gi_wp2_with fail
  refine wpIn_rangeFunc_ownF (Kp := KeepsWalks) (w0 := w1) rfl (by omega) (gf := 271) (lb := #[.pointer (some ⟨w.heap.size + 1, 0, none⟩)]) rfl trivial enters82 (unhide hseq) (fun h k => h.trans k) ?kb (Below.refl _ _) (fun _ => rfl)
    (fun pre W => Boxed W w.heap.size 9 (.string (lastS pre)) ∧ Below w.heap.size w W) (fun _ _ _ => False)
    ?own ?ownx ?start
    (fun x => { tmps := #[.string s, undef, .string ⟨#[]⟩, .pointer (some ⟨w.heap.size, 0, none⟩), encStr x, .string s, .func (.func 271) #[] #[.pointer (some ⟨w.heap.size + 1, 0, none⟩)], encStr x, undef, undef], defers := [] }) ?assign ?body ?done ?stop
  case kb => exact fun W l o o' _ h _ hw => KeepsWalks.putObj _ h hw
  case own => exact OwnFrom.and (Own.from (boxed_own w.heap.size 9 (fun pre => .string (lastS pre))) _) (ownFrom_below (Nat.le_refl _) (by omega))
  case ownx => exact fun c s A B row hs _ _ => hs.elim
  case start => exact ⟨unhide Hb1, unhide HB⟩
  case assign =>
    intro l x W K hK
    gi_wp2
    exact hK
  case body =>
    rintro l pre x W ⟨hv, hb⟩ _
    have hc := hv.cell
    have hf := hv.frozen
    gi_wp2
    refine ⟨KeepsOthers.setCell _ _ _, (KeepsOthers.setCell _ _ _).walks, ?_, hb.setCell (Nat.le_refl _) _⟩
    have e : lastS (pre ++ [x]) = ⟨x.toArray⟩ := by simp [lastS]
    rw [e]
    exact hv.set _
  case done =>
    rintro D xs W hD rfl ⟨hv, hb⟩ hK
    have hc := hv.cell
    gi_wp2
    refine ⟨by simp, .inl ⟨_, _, rfl, run_takeDeferred hK, ?_⟩⟩
    refine ⟨_, results_tmp rfl _ _ _, rfl, hb.trans (belowK_b (w := w) (Nat.le_refl _) W D _ _ (by omega) hK rfl rfl)⟩
  case stop => exact fun D c pre W _ _ h _ => h.elim
set_option maxRecDepth 100000 in
set_option maxHeartbeats 4000000 in
theorem rroot_any (s : ByteArray) (hs : s.size < 4611686018427387904) (w : World) : Calls Tryz.prog 129 #[.string s] w fun e w' => e = .returned (.string (lastS (pathL s.data.toList))) ∧ Below w.heap.size w w' := by
  have D := hide (rpath_any s hs w)
  obtain ⟨P, hP⟩ : ∃ P, P = pathL s.data.toList := ⟨_, rfl⟩
  have HP := hide hP
  rw [← hP]
  unfold PathOut at D
  rw [← hP] at D
  clear hP
  go_enter Tryz.func129, Tryz.ntmps129
  go_wp2_with fail
  refine (unhide D).mono ?_
  rintro e w1 ⟨v, rfl, ho, -, hb⟩
  have HB := hide hb
  by_cases hl : P = []
  · subst hl
    obtain ⟨p, c, ev, hpn, _⟩ := row_slice ho
    subst ev
    clear ho hb D hpn
    go_wp2_with fail
    go_ret
    exact ⟨rfl, unhide HB⟩
  · have hm : 0 < P.length := List.length_pos_iff.2 hl
    have hle : P.length ≤ 4611686018427387904 := by
      have h1 := path_len s.data.toList
      rw [← unhide HP] at h1
      omega
    obtain ⟨q, c, f, ev, _, hh, hf⟩ := row_open ho hm
    subst ev
    obtain ⟨n, hn⟩ : ∃ n, P.length = n + 1 := ⟨P.length - 1, by omega⟩
    have hc := hf n (by omega)
    have hcell : w1.cell? ⟨q, n, none⟩ = some (.string (lastS P)) := by
      rw [cell_at hh]
      rw [← Array.getElem?_toList] at hc
      rw [← Array.getElem?_toList, hc]
      have e : P[n] = P.getLastD [] := by
        have h1 : P.length - 1 = n := by omega
        rw [List.getLastD_eq_getLast?, List.getLast?_eq_getElem?, h1, List.getElem?_eq_getElem (by omega)]
        rfl
      unfold lastS
      rw [← e]
    rw [hn] at hle ⊢
    have e1 : ((n : Int) + 1 == 0) = false := by rw [beq_eq_false_iff_ne]; omega
    have e2 : (((n + 1 : Nat) : Int) == 0) = false := by rw [beq_eq_false_iff_ne]; omega
    clear ho hb D hh hf hc hm hl hn
    go_wp2_with fail
    go_ret
    exact ⟨rfl, unhide HB⟩
end Go.Proofs.YtcafhmlpmbkhkaaGreatDoor.Ch
