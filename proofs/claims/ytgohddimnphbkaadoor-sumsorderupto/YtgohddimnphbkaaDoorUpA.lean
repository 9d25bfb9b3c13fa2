/- sums: upwards (22), its iterator (31). -/
import Derived.Test.YtgohddimnphbkaaDoorPthA
import Derived.Test.YtgohddimnphbkaaDoorRngM
import Derived.RangeFuncOne
import Derived.RangeFuncStops
import Derived.Stop.RegionWithIn
import Derived.Shelf.SlIter.Collect
namespace Go.Proofs.YtgohddimnphbkaaDoor
open Go Go.RowKit Go.Shelf Go.ChangeShapes Go.WideShapes Go.ChangeAt Go.Maps
set_option linter.unusedVariables false
attribute [local go_sem] Oper.semAt_some
def strV : Value → Nat
  | .string s => s.size
  | _ => 0
def upM (v3 v4 : Value) : Nat := match v4 with
  | .bool true => 1 + strV v3
  | _ => 0
/-- while the names above are given out -/
def UpAt (s : ByteArray) (J : List (List UInt8) → World → Prop) (v3 v4 : Value) (wr : World) : Prop :=
  ∃ (pre : List (List UInt8)) (u : ByteArray) (more : Bool), v3 = .string u ∧ v4 = .bool more ∧ J pre wr ∧ u.size < 4611686018427387904 ∧ (more = true → nameL u.data.toList = true ∧ pathL s.data.toList = pre ++ u.data.toList :: ups u.data.toList) ∧ (more = false → pre = pathL s.data.toList)
set_option maxRecDepth 100000 in
set_option maxHeartbeats 4000000 in
theorem up_gives (s : ByteArray) (hs : s.size < 4611686018427387904) (hnm : nameL s.data.toList = true) (B : Nat) (w : World) (hB : w.cell? ⟨B, 0, none⟩ = some (.string s)) (n : Nat) (hn : 1 ≤ n) :
    GivesU Fence.wide n Tryd.prog 31 #[.pointer (some ⟨B, 0, none⟩)] encStr (pathL s.data.toList) w := by
  intro l J W hW hJ hY h0
  have hbox : W.cell? ⟨B, 0, none⟩ = some (.string s) := (hW.cell (p := ⟨B, 0, none⟩) (World.block_lt_of_cell? w _ hB)).trans hB
  have HY := hide hY
  have HJ := hide hJ
  have H0 := hide h0
  have HN := hide hnm
  clear hY hJ h0 hB hW hnm
  refine callsIn_of_wp Tryd.func31 rfl trivial ?_ rfl
  simp only [Tryd.ntmps31, List.size_toArray, List.length_cons, List.length_nil, Nat.reduceAdd, Nat.reduceSub, Array.replicate_succ, Array.replicate_zero, List.push_toArray, List.append_toArray, List.nil_append, List.cons_append]
  gi_wp2_with fail
  gi_loopw [3, 4] (fun v3 v4 wr => UpAt s J v3 v4 wr) (fun v3 v4 _ => upM v3 v4)
  case atStart =>
    refine ⟨[], s, true, rfl, rfl, unhide H0, hs, fun h => ⟨unhide HN, ?_⟩, fun h => by cases h⟩
    rw [pathL, if_pos (unhide HN)]; rfl
  case round =>
    obtain ⟨pre, u, more, rfl, rfl, hj, hu, ht, hf⟩ := hrel
    cases more with
    | false =>
      have hpre := hide (hf rfl)
      have HJ0 := hide hj
      clear ht hf hj
      gi_wp2_with fail
      refine ⟨fun _ h => (by cases h), ?_⟩
      gi_wp2
      go_end0
      exact ⟨⟨_, rfl⟩, by rw [← unhide hpre]; exact unhide HJ0⟩
    | true =>
      obtain ⟨hnu, hpu⟩ := ht rfl
      obtain ⟨fn, tmps, assign, body, hy, hR⟩ := unhide HY pre u.data.toList wr hj (by rw [hpu]; exact ⟨ups u.data.toList, by simp⟩)
      have he : encStr u.data.toList = .string u := by
        show Value.string ⟨u.data.toList.toArray⟩ = .string u
        rw [← text_of (x := u) rfl]
      rw [he] at hy
      have HR := hide hR
      have HNU := hide hnu
      have HPU := hide hpu
      clear ht hf hj hnu hpu hR he
      gi_wp2_with fail
      refine (unhide HR).mono ?_
      rintro e W3 ⟨rfl, hJ3⟩
      have J3 := hide hJ3
      clear hJ3
      gi_wp2_with fail
      refine ⟨trivial, ?_⟩
      refine (callsIn_wide.2 (parent_any u hu W3)).mono ?_
      rintro e W4 ⟨rfl, hb4⟩
      have B4 := hide hb4
      clear hb4
      gi_wp2_with fail
      have hnu := unhide HNU
      have hpu := unhide HPU
      have hJ4 := unhide HJ (pre ++ [u.data.toList]) W3 W4 (unhide J3) (grown_of_below (unhide B4))
      cases hup : ups u.data.toList with
      | nil =>
        have e1 : parS u.data.toList = (⟨#[]⟩, false) := by rw [parS, if_pos hnu, hup]
        rw [e1]
        refine ⟨⟨pre ++ [u.data.toList], ⟨#[]⟩, false, rfl, rfl, hJ4, by decide, fun h => (by cases h), fun _ => ?_⟩, by simp only [upM, strV]; omega⟩
        rw [hpu, hup]
      | cons p t =>
        have e1 : parS u.data.toList = (⟨p.toArray⟩, true) := by rw [parS, if_pos hnu, hup]
        rw [e1]
        have hpl := ups_len_lt hup
        have hps : (⟨p.toArray⟩ : ByteArray).size = p.length := by simp [ByteArray.size]
        have hc : u.data.toList.contains 58 = true := by
          by_cases hc : u.data.toList.contains 58 = true
          · exact hc
          · rw [ups_none _ (by simpa using hc)] at hup
            cases hup
        obtain ⟨j, hj, _, hu2, hn2⟩ := ups_some u hc
        rw [hu2] at hup
        injection hup with ep et
        refine ⟨⟨pre ++ [u.data.toList], ⟨p.toArray⟩, true, rfl, rfl, hJ4, by omega, fun _ => ⟨?_, ?_⟩, fun h => (by cases h)⟩, by simp only [upM, strV]; omega⟩
        · show nameL p = true
          rw [← ep]
          exact hn2 hnu
        · show _ = (pre ++ [u.data.toList]) ++ p :: ups p
          rw [hpu, hu2, List.append_assoc, ep]
          rfl
set_option maxHeartbeats 1000000 in
theorem upwards_any (s : ByteArray) (w : World) : Calls Tryd.prog 22 #[.string s] w fun e w' => e = .returned (.func (.func 31) #[] #[.pointer (some ⟨w.heap.size, 0, none⟩)]) ∧ w' = w.alloc (.cells #[.string s] 9) := by
  go_enter Tryd.func22, Tryd.ntmps22
  go_wp2_with fail
  go_ret
  exact ⟨rfl, rfl⟩
theorem enters31 : ∀ args w, (callFunc 31 args).run Tryd.prog w = .ok (.enter 31 args) w := by
  exact enters_of Tryd.func31 (by kernel_rfl) rfl
end Go.Proofs.YtgohddimnphbkaaDoor
