/- the document's Below (11). -/
import Derived.Test.YtgohddimnphbkaaDoorPthA
namespace Go.Proofs.YtgohddimnphbkaaDoor
open Go Go.RowKit Go.ChangeShapes Go.WideShapes Go.ChangeAt
set_option linter.unusedVariables false
def undB (a b : ByteArray) : Bool := decide (b.data.toList ∈ ups a.data.toList)
set_option maxRecDepth 100000 in
set_option maxHeartbeats 2000000 in
theorem below_any (a b : ByteArray) (ha : a.size < 4611686018427387904) (hb : b.size < 4611686018427387904) (w : World) : Calls Tryd.prog 11 #[.string a, .string b] w fun e w' => e = .returned (.bool (undB a b)) ∧ w' = w := by
  have hiff := below_iff a.data.toList b.data.toList
  have la : a.data.toList.length = a.size := rfl
  have lb : b.data.toList.length = b.size := rfl
  by_cases h1 : b.size < a.size
  · have hI : (b.size : Int) < (a.size : Int) := by omega
    have hI2 : decide ((a.size : Int) > (b.size : Int)) = true := by simpa using h1
    have hI3 : decide ((b.size : Int) < (a.size : Int)) = true := by simpa using h1
    have hex : (a.extract 0 b.size).data.toList = a.data.toList.take b.size := ext_take a b.size
    have hexl : (a.extract 0 b.size).toList = a.data.toList.take b.size := by rw [Lib.toList_data]; exact hex
    by_cases h2 : a.data.toList.take b.size = b.data.toList
    · have h2b : ((a.extract 0 b.size).toList == b.toList) = true := by rw [hexl, h2, Lib.toList_data]; simp
      have hub : undB a b = decide (a.data.toList[b.size]? = some 58) := by
        unfold undB
        rw [decide_eq_decide, hiff, la, lb]
        exact ⟨fun h => h.2.2, fun h => ⟨h1, h2, h⟩⟩
      have hget : a.data.toList[b.size]? = some (a[b.size]) := by
        rw [List.getElem?_eq_getElem (by omega)]
        rfl
      rw [hub, hget]
      obtain ⟨c, hc⟩ : ∃ c : UInt8, c = a[b.size] := ⟨_, rfl⟩
      rw [← hc]
      have hcn : (c.toNat : Int) = (a[b.size]).toNat := by rw [hc]
      clear hiff la lb hub hget hex hexl h2
      by_cases h3 : c = 58
      · subst h3
        rw [show decide (some (58 : UInt8) = some 58) = true from rfl]
        have hc' : (a[b.size]).toNat = 58 := by rw [← hc]; rfl
        clear hcn hc
        go_enter Tryd.func11, Tryd.ntmps11
        go_wp2_with fail
        go_ret
        exact ⟨rfl, rfl⟩
      · rw [show decide (some c = some (58 : UInt8)) = false from by simpa using h3]
        have hne : ((a[b.size]).toNat : Int) ≠ 58 := fun e => h3 (by
          rw [hc]
          refine UInt8.toNat_inj.1 ?_
          have : (a[b.size]).toNat = 58 := by omega
          rw [this]
          rfl)
        have hnb : (((a[b.size]).toNat : Int) == 58) = false := by simpa using hne
        clear hcn hc h3 hne
        go_enter Tryd.func11, Tryd.ntmps11
        go_wp2_with fail
        go_ret
        exact ⟨rfl, rfl⟩
    · have h2b : ((a.extract 0 b.size).toList == b.toList) = false := by rw [hexl, Lib.toList_data]; simpa using h2
      have hub : undB a b = false := by
        unfold undB
        rw [decide_eq_false_iff_not, hiff, la, lb]
        exact fun h => h2 h.2.1
      rw [hub]
      clear hiff la lb hub hex hexl h2
      go_enter Tryd.func11, Tryd.ntmps11
      go_wp2_with fail
      go_ret
      exact ⟨rfl, rfl⟩
  · have hI2 : decide ((a.size : Int) > (b.size : Int)) = false := by simpa using h1
    have hI3 : decide ((b.size : Int) < (a.size : Int)) = false := by simpa using h1
    have hI4 : ¬ (b.size : Int) < (a.size : Int) := by omega
    have hub : undB a b = false := by
      unfold undB
      rw [decide_eq_false_iff_not, hiff, la, lb]
      exact fun h => h1 h.1
    rw [hub]
    clear hiff la lb hub
    go_enter Tryd.func11, Tryd.ntmps11
    go_wp2_with fail
    go_ret
    exact ⟨rfl, rfl⟩
end Go.Proofs.YtgohddimnphbkaaDoor
