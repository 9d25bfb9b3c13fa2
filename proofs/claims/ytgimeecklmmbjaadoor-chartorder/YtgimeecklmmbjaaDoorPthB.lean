/- chart: the iterator over the names above one (82). -/
import Derived.Test.YtgimeecklmmbjaaDoorPthA
import Derived.RangeFuncOne
import Derived.RangeFuncStops
import Derived.RangeFuncCalls
import Derived.RangeFuncLeaves
import Derived.RangeFuncBox
import Derived.Shelf.Abstract
import Derived.Stop.RegionWithIn
import Derived.OwnWalkIn
import Derived.TacticsInMore
import Derived.LoopNIn
import Derived.LoopIn
import Derived.Shelf.SlIter.Collect
namespace Go.Proofs.YtgimeecklmmbjaaDoor
open Go Go.RowKit Go.Shelf Go.ChangeShapes Go.WideShapes Go.ChangeAt Go.Maps
set_option linter.unusedVariables false
attribute [local go_sem] Oper.semAt_some
def strV : Value → Nat
  | .string s => s.size
  | _ => 0
def upM (v3 v4 : Value) : Nat := match v4 with
  | .bool true => 1 + strV v3
  | _ => 0
/-- while the names above are given out -/
def UpAt (s : ByteArray) (J : List (List UInt8) → World → Prop) (v3 v4 : Value) (wr : World) : Prop :=
  ∃ (pre : List (List UInt8)) (u : ByteArray) (more : Bool), v3 = .string u ∧ v4 = .bool more ∧ J pre wr ∧ u.size < 4611686018427387904 ∧ (more = true → nameL u.data.toList = true ∧ pathL s.data.toList = pre ++ u.data.toList :: ups u.data.toList) ∧ (more = false → pre = pathL s.data.toList)
set_option maxRecDepth 100000 in
set_option maxHeartbeats 4000000 in
theorem up_stops (s : ByteArray) (hs : s.size < 4611686018427387904) (B : Nat) (w : World) (hB : w.cell? ⟨B, 0, none⟩ = some (.string s)) (n : Nat) (hn : 1 ≤ n) :
    SeqStops Fence.wide n Tryd.prog 48 #[.pointer (some ⟨B, 0, none⟩)] encStr (fun xs => xs = pathL s.data.toList) (fun pre => pre <+: pathL s.data.toList) 6 w := by
  intro l J Jx W hW hJ hJx hY h0
  have hbox : W.cell? ⟨B, 0, none⟩ = some (.string s) := (hW.cell (p := ⟨B, 0, none⟩) (World.block_lt_of_cell? w _ hB)).trans hB
  have HY := hide hY
  have HJ := hide hJ
  have HX := hide hJx
  have H0 := hide h0
  have dg := hide (good_any s hs)
  clear hY hJ hJx h0 hB hW
  refine callsIn_of_wp Tryd.func48 rfl trivial ?_ rfl
  simp only [Tryd.ntmps48, List.size_toArray, List.length_cons, List.length_nil, Nat.reduceAdd, Nat.reduceSub, Array.replicate_succ, Array.replicate_zero, List.push_toArray, List.append_toArray, List.nil_append, List.cons_append]
  gi_wp2_with fail
  obtain ⟨y, hy⟩ : ∃ y, y = nameL s.data.toList := ⟨_, rfl⟩
  rw [← hy] at dg
  have HN := hide hy
  clear hy
  refine wpIn_mono (Q := Exit.then (fun a' w' => a' = { tmps := #[.func (.yield l) #[] #[], .pointer (some ⟨B, 0, none⟩), undef, .string s, .bool y, .string s, .string s, .bool y, undef, undef, undef, undef, undef, undef, undef, undef, undef, undef, undef], defers := [] } ∧ Below W.heap.size W w') (fun _ _ _ => False)) ?_ ?_
  · gi_region_with ((first | (refine ⟨trivial, ?_⟩; refine (callsIn_wide.2 (unhide dg _)).mono ?_; rintro e w1 ⟨rfl, hb⟩; have hbox1 := keep1 hb (World.block_lt_of_cell? W _ hbox) hbox; have HB := hide hb; clear hb)))
    all_goals exact ⟨rfl, by have h := unhide HB; exact ⟨h.os, h.tape, h.output, h.size, h.block⟩⟩
  intro e a' w1 h
  cases e with
  | normal => ?_
  | ret => exact h.elim
  | exit _ => exact h.elim
  | goto _ => exact h.elim
  | panic _ => exact h.elim
  | outgrown => exact h.elim
  obtain ⟨rfl, hb⟩ := h
  have HB := hide hb
  clear hb
  gi_wp2_with fail
  gi_loopw [3, 4] (fun v3 v4 wr => UpAt s J v3 v4 wr) (fun v3 v4 _ => upM v3 v4)
  case atStart =>
    refine ⟨[], s, y, rfl, rfl, unhide HJ [] W w1 none (unhide H0) (grown_of_below (unhide HB)) (fun r e => by cases e), hs, fun h => ?_, fun h => ?_⟩
    · have hy := unhide HN
      rw [h] at hy
      exact ⟨hy.symm, by rw [pathL, if_pos hy.symm]; rfl⟩
    · have hy := unhide HN
      rw [h] at hy
      rw [pathL, if_neg (by rw [← hy]; simp)]
  case round =>
    obtain ⟨pre, u, more, rfl, rfl, hj, hu, ht, hf⟩ := hrel
    cases more with
    | false =>
      have hpre := hide (hf rfl)
      have HJ0 := hide hj
      clear ht hf hj
      gi_wp2_with fail
      refine ⟨fun _ h => (by cases h), ?_⟩
      gi_wp2
      go_end0
      exact ⟨⟨_, rfl⟩, .inl ⟨pre, unhide hpre, unhide HJ0⟩⟩
    | true =>
      obtain ⟨hnu, hpu⟩ := ht rfl
      have hlen : pre.length < 6 := by
        have h := path_len s.data.toList
        rw [hpu] at h
        simp at h
        omega
      obtain ⟨fn, tmps, assign, body, hy, hR⟩ := unhide HY pre u.data.toList wr hj hlen
      have he : encStr u.data.toList = .string u := by
        show Value.string ⟨u.data.toList.toArray⟩ = .string u
        rw [← text_of (x := u) rfl]
      rw [he] at hy
      have HR := hide hR
      have HNU := hide hnu
      have HPU := hide hpu
      clear ht hf hj hnu hpu hlen hR he
      gi_wp2_with fail
      refine (unhide HR).mono ?_
      rintro e W3 (⟨rfl, hJ3, hk3⟩ | ⟨rfl, hx3⟩)
      · have J3 := hide hJ3
        clear hJ3 hk3
        gi_wp2_with fail
        refine ⟨trivial, ?_⟩
        refine (callsIn_wide.2 (parent_any u hu W3)).mono ?_
        rintro e W4 ⟨rfl, hb4⟩
        have B4 := hide hb4
        clear hb4
        gi_wp2_with fail
        have hnu := unhide HNU
        have hpu := unhide HPU
        have hJ4 := unhide HJ (pre ++ [u.data.toList]) W3 W4 none (unhide J3) (grown_of_below (unhide B4)) (fun r e => by cases e)
        cases hup : ups u.data.toList with
        | nil =>
          have e1 : parS u.data.toList = (⟨#[]⟩, false) := by rw [parS, if_pos hnu, hup]
          rw [e1]
          refine ⟨⟨pre ++ [u.data.toList], ⟨#[]⟩, false, rfl, rfl, hJ4, by decide, fun h => (by cases h), fun _ => ?_⟩, by simp only [upM, strV]; omega⟩
          rw [hpu, hup]
        | cons p t =>
          have e1 : parS u.data.toList = (⟨p.toArray⟩, true) := by rw [parS, if_pos hnu, hup]
          rw [e1]
          have hpl := ups_len_lt hup
          have hps : (⟨p.toArray⟩ : ByteArray).size = p.length := by simp [ByteArray.size]
          have hc : u.data.toList.contains 58 = true := by
            by_cases hc : u.data.toList.contains 58 = true
            · exact hc
            · rw [ups_none _ (by simpa using hc)] at hup
              cases hup
          obtain ⟨j, hj, _, hu2, hn2⟩ := ups_some u hc
          rw [hu2] at hup
          injection hup with ep et
          refine ⟨⟨pre ++ [u.data.toList], ⟨p.toArray⟩, true, rfl, rfl, hJ4, by omega, fun _ => ⟨?_, ?_⟩, fun h => (by cases h)⟩, by simp only [upM, strV]; omega⟩
          · show nameL p = true
            rw [← ep]
            exact hn2 hnu
          · show _ = (pre ++ [u.data.toList]) ++ p :: ups p
            rw [hpu, hu2, List.append_assoc, ep]
            rfl
      · have X3 := hide hx3
        clear hx3
        gi_wp2_with fail
        go_end0
        refine ⟨⟨_, rfl⟩, .inr ⟨pre ++ [u.data.toList], ?_, unhide X3⟩⟩
        rw [unhide HPU]
        exact ⟨ups u.data.toList, by simp⟩
end Go.Proofs.YtgimeecklmmbjaaDoor
