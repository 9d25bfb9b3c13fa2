/- aged: SameClaims (29), SameAllots (43) of equal lists. -/
import Derived.Test.YtildpgfhahmgmaaDoorAlB
import Derived.Laws.StructEq
namespace Go.Proofs.YtildpgfhahmgmaaDoor
open Go Go.RowKit Go.Shelf Go.ChangeShapes Go.WideShapes Go.ChangeAt Go.Maps
set_option linter.unusedVariables false
theorem sd37 : Tryd.prog.underlying 37 = some (.struct (Tryd.prog.fieldsOf 37)) := by kernel_rfl
theorem sh37 : Tryd.prog.stoodInHeld 37 = false := by kernel_rfl
theorem eg37 : Tryd.prog.eqGuardType Tryd.prog.depth 37 = false := by kernel_rfl
theorem fl37 : (Tryd.prog.fieldsOf 37).toList.map (fun f => (f.type, f.offset, f.name == "_")) = [(9, 0, false), (9, 1, false), (3, 2, false), (3, 3, false), (2, 4, false)] := by kernel_rfl
theorem eq37_same (x0 : ByteArray) (x1 : ByteArray) (x2 : Int) (x3 : Int) (x4 : Int) (w : World) : (Op.equalIn 10000 37 (.agg #[.string x0, .string x1, .int .i64 x2, .int .i64 x3, .int .i64 x4]) (.agg #[.string x0, .string x1, .int .i64 x2, .int .i64 x3, .int .i64 x4])).run Tryd.prog w = .ok true w := by
  rw [run_equalIn_agg w 9999 37 _ _ sd37 sh37]
  obtain ⟨f0, f1, f2, f3, f4, hf⟩ : ∃ f0 f1 f2 f3 f4, (Tryd.prog.fieldsOf 37).toList = [f0, f1, f2, f3, f4] := by
    have h := congrArg List.length fl37
    rw [List.length_map] at h
    match hq : (Tryd.prog.fieldsOf 37).toList, h with
    | [a, b, c, d, e], _ => exact ⟨a, b, c, d, e, rfl⟩
  have h := fl37
  rw [hf] at h ⊢
  simp at h
  simp [Op.eqFields, go_sem, h, Tryd.underlying9, Tryd.underlying2, Tryd.underlying3]
attribute [local go_sem ↓] ld37_is
set_option maxRecDepth 100000 in
set_option maxHeartbeats 4000000 in
theorem sameC_any {W : World} {p1 p2 : Option Addr} {c1 c2 n : Nat} {L : List Cl} (hn : L.length = n) (hn2 : n ≤ 1099511627776) (h : Lies kC W p1 L) (h' : Lies kC W p2 L) :
    Calls Tryd.prog 29 #[.slice p1 n c1, .slice p2 n c2] W fun e w' => e = .returned (.bool true) ∧ ∃ m, w' = W.drewN m := by
  have H := hide h; have H' := hide h'; have HN := hide hn
  have hst := sd37
  have hsh := sh37
  have heg := eg37
  have heq := eq37_same
  clear h h' hn
  go_enter Tryd.func29, Tryd.ntmps29
  go_wp2_with fail
  go_loopw [5] (fun i wr => ∃ (k m : Nat), i = .int .i64 k ∧ k ≤ n ∧ Hid (wr = W.drewN m)) (fun i _ => n - (intOf i).toNat)
  case atStart => exact ⟨0, 0, rfl, by omega, rfl⟩
  case round =>
    obtain ⟨k, m, rfl, hk, hw⟩ := hrel
    by_cases hlt : k < n
    · have hkl : k < L.length := by rw [unhide HN]; exact hlt
      obtain ⟨b1, o1, e1, _, r1⟩ := (unhide H).2 k hkl
      obtain ⟨b2, o2, e2, _, r2⟩ := (unhide H').2 k hkl
      subst e1 e2
      obtain ⟨c, hc⟩ : ∃ c, c = L[k] := ⟨_, rfl⟩
      rw [← hc] at r1 r2
      have l1 : ∀ d', (ld37 (.pointer (some ⟨b1, o1 + k * 5, none⟩))).run Tryd.prog (wr.drewN d') = .ok (.agg #[.string c.key, .string c.acc, .int .i64 c.day, .int .i64 c.due, .int .i64 c.amt]) (wr.drewN d') := fun d' => by
        rw [unhide hw]
        exact run_ld37 (fun j u hu => by have h1 : W.cell? ⟨b1, o1 + k * 5 + j, none⟩ = some u := r1 j u hu; simpa using h1)
      have l2 : ∀ d', (ld37 (.pointer (some ⟨b2, o2 + k * 5, none⟩))).run Tryd.prog (wr.drewN d') = .ok (.agg #[.string c.key, .string c.acc, .int .i64 c.day, .int .i64 c.due, .int .i64 c.amt]) (wr.drewN d') := fun d' => by
        rw [unhide hw]
        exact run_ld37 (fun j u hu => by have h1 : W.cell? ⟨b2, o2 + k * 5 + j, none⟩ = some u := r2 j u hu; simpa using h1)
      clear r1 r2 hc hkl
      go_wp2_with fail
      go_quiet (fail)
      go_wp2_with fail
      refine ⟨⟨k + 1, m + nq, by simp, by omega, ?_⟩, by simp [intOf]; omega⟩
      show _ = _
      rw [unhide hw, drew_two]
    · have hkn : k = n := by omega
      subst hkn
      go_wp2_with fail
      go_ret
      exact ⟨rfl, m, unhide hw⟩
theorem sd51 : Tryd.prog.underlying 51 = some (.struct (Tryd.prog.fieldsOf 51)) := by kernel_rfl
theorem sh51 : Tryd.prog.stoodInHeld 51 = false := by kernel_rfl
theorem eg51 : Tryd.prog.eqGuardType Tryd.prog.depth 51 = false := by kernel_rfl
theorem fl51 : (Tryd.prog.fieldsOf 51).toList.map (fun f => (f.type, f.offset, f.name == "_")) = [(9, 0, false), (9, 1, false), (3, 2, false), (2, 3, false)] := by kernel_rfl
theorem eq51_same (x0 : ByteArray) (x1 : ByteArray) (x2 : Int) (x3 : Int) (w : World) : (Op.equalIn 10000 51 (.agg #[.string x0, .string x1, .int .i64 x2, .int .i64 x3]) (.agg #[.string x0, .string x1, .int .i64 x2, .int .i64 x3])).run Tryd.prog w = .ok true w := by
  rw [run_equalIn_agg w 9999 51 _ _ sd51 sh51]
  obtain ⟨f0, f1, f2, f3, hf⟩ : ∃ f0 f1 f2 f3, (Tryd.prog.fieldsOf 51).toList = [f0, f1, f2, f3] := by
    have h := congrArg List.length fl51
    rw [List.length_map] at h
    match hq : (Tryd.prog.fieldsOf 51).toList, h with
    | [a, b, c, d], _ => exact ⟨a, b, c, d, rfl⟩
  have h := fl51
  rw [hf] at h ⊢
  simp at h
  simp [Op.eqFields, go_sem, h, Tryd.underlying9, Tryd.underlying2, Tryd.underlying3]
attribute [local go_sem ↓] ld51_is
set_option maxRecDepth 100000 in
set_option maxHeartbeats 4000000 in
theorem sameA_any {W : World} {p1 p2 : Option Addr} {c1 c2 n : Nat} {L : List Al} (hn : L.length = n) (hn2 : n ≤ 1099511627776) (h : Lies kA W p1 L) (h' : Lies kA W p2 L) :
    Calls Tryd.prog 43 #[.slice p1 n c1, .slice p2 n c2] W fun e w' => e = .returned (.bool true) ∧ ∃ m, w' = W.drewN m := by
  have H := hide h; have H' := hide h'; have HN := hide hn
  have hst := sd51
  have hsh := sh51
  have heg := eg51
  have heq := eq51_same
  clear h h' hn
  go_enter Tryd.func43, Tryd.ntmps43
  go_wp2_with fail
  go_loopw [5] (fun i wr => ∃ (k m : Nat), i = .int .i64 k ∧ k ≤ n ∧ Hid (wr = W.drewN m)) (fun i _ => n - (intOf i).toNat)
  case atStart => exact ⟨0, 0, rfl, by omega, rfl⟩
  case round =>
    obtain ⟨k, m, rfl, hk, hw⟩ := hrel
    by_cases hlt : k < n
    · have hkl : k < L.length := by rw [unhide HN]; exact hlt
      obtain ⟨b1, o1, e1, _, r1⟩ := (unhide H).2 k hkl
      obtain ⟨b2, o2, e2, _, r2⟩ := (unhide H').2 k hkl
      subst e1 e2
      obtain ⟨c, hc⟩ : ∃ c, c = L[k] := ⟨_, rfl⟩
      rw [← hc] at r1 r2
      have l1 : ∀ d', (ld51 (.pointer (some ⟨b1, o1 + k * 4, none⟩))).run Tryd.prog (wr.drewN d') = .ok (.agg #[.string c.pay, .string c.inv, .int .i64 c.day, .int .i64 c.amt]) (wr.drewN d') := fun d' => by
        rw [unhide hw]
        exact run_ld51 (fun j u hu => by have h1 : W.cell? ⟨b1, o1 + k * 4 + j, none⟩ = some u := r1 j u hu; simpa using h1)
      have l2 : ∀ d', (ld51 (.pointer (some ⟨b2, o2 + k * 4, none⟩))).run Tryd.prog (wr.drewN d') = .ok (.agg #[.string c.pay, .string c.inv, .int .i64 c.day, .int .i64 c.amt]) (wr.drewN d') := fun d' => by
        rw [unhide hw]
        exact run_ld51 (fun j u hu => by have h1 : W.cell? ⟨b2, o2 + k * 4 + j, none⟩ = some u := r2 j u hu; simpa using h1)
      clear r1 r2 hc hkl
      go_wp2_with fail
      go_quiet (fail)
      go_wp2_with fail
      refine ⟨⟨k + 1, m + nq, by simp, by omega, ?_⟩, by simp [intOf]; omega⟩
      show _ = _
      rw [unhide hw, drew_two]
    · have hkn : k = n := by omega
      subst hkn
      go_wp2_with fail
      go_ret
      exact ⟨rfl, m, unhide hw⟩
end Go.Proofs.YtildpgfhahmgmaaDoor
