/- the document's Root (16). -/
import Derived.Test.YtgohddimnphbkaaDoorBlA
namespace Go.Proofs.YtgohddimnphbkaaDoor
open Go Go.RowKit Go.ChangeShapes Go.WideShapes Go.ChangeAt
set_option linter.unusedVariables false
def rtB (a : ByteArray) : Bool := decide ((58 : UInt8) ∉ a.data.toList)
set_option maxRecDepth 100000 in
set_option maxHeartbeats 2000000 in
theorem root_any (a : ByteArray) (ha : a.size < 4611686018427387904) (w : World) : Calls Tryd.prog 16 #[.string a] w fun e w' => e = .returned (.bool (rtB a)) ∧ w' = w := by
  have la : a.data.toList.length = a.size := rfl
  go_enter Tryd.func16, Tryd.ntmps16
  go_wp2_with fail
  go_loopw [3] (fun i wr => ∃ (k : Nat), i = .int .i64 k ∧ k ≤ a.size ∧ Hid ((∀ j, j < k → a.data.toList[j]? ≠ some 58) ∧ wr = w)) (fun i _ => a.size - (intOf i).toNat)
  case atStart => exact ⟨0, rfl, by omega, (fun j hj => by omega), rfl⟩
  case round =>
    obtain ⟨k, rfl, hk, hrel⟩ := hrel
    by_cases hlt : k < a.size
    · have hI : (k : Int) < (a.size : Int) := by omega
      have hget : a.data.toList[k]? = some (a[k]) := by
        rw [List.getElem?_eq_getElem (by omega)]
        rfl
      by_cases h3 : a[k] = 58
      · have hc' : (a[k]).toNat = 58 := by rw [h3]; rfl
        have hr : rtB a = false := by
          unfold rtB
          rw [decide_eq_false_iff_not, Classical.not_not]
          exact List.mem_iff_getElem?.2 ⟨k, by rw [hget, h3]⟩
        have HR := hide hr
        clear hr hget h3
        go_wp2_with fail
        go_ret
        exact ⟨by rw [unhide HR]; rfl, (unhide hrel).2⟩
      · have hne : ((a[k]).toNat : Int) ≠ 58 := fun e => h3 (by
          refine UInt8.toNat_inj.1 ?_
          have : (a[k]).toNat = 58 := by omega
          rw [this]
          rfl)
        have hnb : (((a[k]).toNat : Int) == 58) = false := by simpa using hne
        have hup : Hid ((∀ j, j < k + 1 → a.data.toList[j]? ≠ some 58) ∧ wr = w) := by
          refine ⟨fun j hj => ?_, (unhide hrel).2⟩
          by_cases e : j = k
          · rw [e, hget]
            exact fun q => h3 (Option.some.inj q)
          · exact (unhide hrel).1 j (by omega)
        clear h3 hget hne hrel
        go_wp2_with fail
        refine ⟨⟨k + 1, by simp, by omega, hup⟩, by simp [intOf]; omega⟩
    · have hkn : k = a.size := by omega
      have hr : rtB a = true := by
        unfold rtB
        rw [decide_eq_true_iff]
        intro hm
        obtain ⟨j, hj⟩ := List.mem_iff_getElem?.1 hm
        have := (List.getElem?_eq_some_iff.1 hj).1
        exact (unhide hrel).1 j (by omega) hj
      have HR := hide hr
      clear hr
      subst hkn
      go_wp2_with fail
      go_ret
      exact ⟨by rw [unhide HR]; rfl, (unhide hrel).2⟩
end Go.Proofs.YtgohddimnphbkaaDoor
