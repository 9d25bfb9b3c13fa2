import Derived.Test.YtcafhmlpmbkhkaaGreatDoorW09
import Derived.Test.YtcafhmlpmbkhkaaGreatDoorW10
import Derived.Laws.StructEq
import Derived.Test.YtcafhmlpmbkhkaaGreatDoorW05
import Derived.Test.YtcafhmlpmbkhkaaGreatDoorW17
import Derived.Test.YtcafhmlpmbkhkaaGreatDoorW26
namespace Go.Proofs.YtcafhmlpmbkhkaaGreatDoor.Kg
open Go Go.Shelf Go.ChangeShapes Go.WideShapes Go.ChangeAt Go.RowKit Go.Maps
set_option linter.unusedVariables false
set_option linter.unusedSimpArgs false
attribute [local go_sem ↓] ldM_is
end Go.Proofs.YtcafhmlpmbkhkaaGreatDoor.Kg
namespace Go.Proofs.YtcafhmlpmbkhkaaGreatDoor
open Go Go.Shelf Go.ChangeShapes Go.WideShapes Go.ChangeAt Go.RowKit Go.Maps
set_option linter.unusedVariables false
variable {α : Type} {K : Kd α}
theorem Lies.take {W : World} {p : Option Addr} {A B : List α} (h : Lies K W p (A ++ B)) : Lies K W p A := by
  refine ⟨fun hp => ?_, fun k hk => ?_⟩
  · have := h.1 hp
    exact (List.append_eq_nil_iff.1 this).1
  · obtain ⟨b, o, e, hb, hr⟩ := h.2 k (by rw [List.length_append]; omega)
    refine ⟨b, o, e, hb, ?_⟩
    rwa [List.getElem_append_left hk] at hr
end Go.Proofs.YtcafhmlpmbkhkaaGreatDoor
namespace Go.Proofs.YtcafhmlpmbkhkaaGreatDoor
open Go Go.Shelf Go.ChangeShapes Go.WideShapes Go.ChangeAt Go.RowKit Go.Maps
set_option linter.unusedVariables false
set_option linter.unusedSimpArgs false
set_option maxHeartbeats 1000000 in
theorem num_any (e : Int) (w : World) : Calls Tryz.prog 57 #[.int .i64 e] w fun x w' => x = .returned (.int .i64 e) ∧ w' = w := by
  go_enter Tryz.func57, Tryz.ntmps57
  go_wp2
  go_ret
  exact ⟨rfl, rfl⟩
set_option maxHeartbeats 2000000 in
theorem like_yes (s : ByteArray) (e : Int) (w : World) : Calls Tryz.prog 12 #[.string s, .int .i64 e, .string s, .int .i64 e] w fun x w' => x = .returned (.bool true) ∧ w' = w := by
  go_enter Tryz.func12, Tryz.ntmps12
  go_wp2
  go_ret
  exact ⟨rfl, rfl⟩
def firX : List Cm := [⟨⟨#[65]⟩, 5, 0⟩, ⟨⟨#[66, 58, 67]⟩, 0, 12⟩]
def firT : Tx := [65, 99, 99, 111, 117, 110, 116, 32, 32, 68, 101, 98, 105, 116, 32, 32, 67, 114, 101, 100, 105, 116, 10, 65, 32, 32, 32, 32, 32, 32, 32, 32, 32, 32, 48, 46, 53, 10, 66, 58, 67, 32, 32, 32, 32, 32, 32, 32, 32, 32, 32, 32, 32, 32, 32, 32, 32, 49, 46, 50, 10, 83, 117, 109, 32, 32, 32, 32, 32, 32, 32, 32, 48, 46, 53, 32, 32, 32, 32, 32, 49, 46, 50, 10]
theorem fir_is : ansT 1 firX = (firT, 0) := by decide +kernel
set_option maxRecDepth 100000 in
set_option maxHeartbeats 4000000 in
theorem first_any (w : World) (hP : Kg.Pw w) : Calls Tryz.prog 14 #[] w fun e w' => e = .returned (.bool true) ∧ Below w.heap.size w w' := by
  obtain ⟨w1, hw1⟩ : ∃ W, W = w.alloc (.cells #[.string ⟨#[65]⟩, .int .i64 5, .int .i64 0, .string ⟨#[66, 58, 67]⟩, .int .i64 0, .int .i64 12] 31) := ⟨_, rfl⟩
  have b1 : Below w.heap.size w w1 := by rw [hw1]; exact bal (Below.refl _ _) _
  have hh : w1.heap[w.heap.size]? = some (.cells #[.string ⟨#[65]⟩, .int .i64 5, .int .i64 0, .string ⟨#[66, 58, 67]⟩, .int .i64 0, .int .i64 12] 31) := by rw [hw1]; exact heap_new _ _
  have hL : Lies kM w1 (some ⟨w.heap.size, 0, none⟩) firX := by
    refine ⟨(fun e => by cases e), fun k hk => ⟨w.heap.size, 0, rfl, (Array.getElem?_eq_some_iff.1 hh).1, fun j u hu => ?_⟩⟩
    have hk2 : k = 0 ∨ k = 1 := by simp [firX] at hk; omega
    have hj := (List.getElem?_eq_some_iff.1 hu).1
    rw [cell_at hh]
    rcases hk2 with rfl | rfl
    · have hj3 : j = 0 ∨ j = 1 ∨ j = 2 := by simp [kM, Cm.vals] at hj; omega
      rcases hj3 with rfl | rfl | rfl <;> simpa [kM, Cm.vals, firX] using hu
    · have hj3 : j = 0 ∨ j = 1 ∨ j = 2 := by simp [kM, Cm.vals] at hj; omega
      rcases hj3 with rfl | rfl | rfl <;> simpa [kM, Cm.vals, firX] using hu
  have D : Hid (Calls Tryz.prog 10 #[.slice (some ⟨w.heap.size, 0, none⟩) 2 2, .int .i64 1] w1 fun e w' => e = .returned (.tuple #[.string (txB firT), .int .i64 0]) ∧ Below w1.heap.size w1 w') := by
    have h := trial_any (hP.below b1) (c := 2) (X := firX) (n := 2) rfl hL (fun x hx => by
      simp only [firX, List.mem_cons, List.not_mem_nil, or_false] at hx
      rcases hx with rfl | rfl
      · exact ⟨by decide, by decide, by decide⟩
      · exact ⟨by decide, by decide, by decide⟩) (by decide) 1 (by decide)
    unfold TriOut at h
    rw [fir_is] at h
    exact h
  have hw1' := hw1.symm
  have HB := hide b1
  have HTE : Hid ((txB firT).toList = firT) := by show _ = _; rw [Lib.toList_data]; rfl
  obtain ⟨TX, hTX⟩ : ∃ T, T = txB firT := ⟨_, rfl⟩
  rw [← hTX] at D HTE
  have hcmp := unhide HTE
  clear hP hh hL b1 hw1 hTX
  go_enter Tryz.func14, Tryz.ntmps14
  go_wp2_with fail
  refine (unhide D).mono ?_
  rintro e w2 ⟨rfl, hb2⟩
  have HB2 : Hid (Below w.heap.size w w2) := (unhide HB).trans (hb2.mono (unhide HB).size)
  clear hw1' hb2 D
  unfold firT at hcmp
  go_wp2_with (go_at_call 57; refine (num_any _ _).mono ?_; rintro e w3 ⟨rfl, hw3⟩; rw [hw3]; clear hw3 w3)
  go_ret
  exact ⟨rfl, unhide HB2⟩
end Go.Proofs.YtcafhmlpmbkhkaaGreatDoor
