/- sameBalances (12). -/
import Derived.Test.YtgohddimnphbkaaDoorVwA
import Derived.Laws.StructEq
namespace Go.Proofs.YtgohddimnphbkaaDoor
open Go Go.RowKit Go.Shelf Go.ChangeShapes Go.WideShapes Go.ChangeAt Go.Maps Go.Sort
set_option linter.unusedVariables false
def ld47 (x : Value) : Sem Value := Instr.loadAt 47 x
theorem ld47_is (x : Value) : Instr.loadAt 47 x = ld47 x := rfl
theorem size47 : (Tryd.prog.info? 47).map (·.size) = some 3 := by kernel_rfl
theorem st47 : Tryd.prog.underlying 47 = some (.struct (Tryd.prog.fieldsOf 47)) := by kernel_rfl
theorem sh47 : Tryd.prog.stoodInHeld 47 = false := by kernel_rfl
theorem eg47 : Tryd.prog.eqGuardType Tryd.prog.depth 47 = false := by kernel_rfl
theorem fl47 : (Tryd.prog.fieldsOf 47).toList.map (fun f => (f.type, f.offset, f.name == "_")) = [(9, 0, false), (2, 1, false), (2, 2, false)] := by kernel_rfl
theorem eq47_same (s : ByteArray) (x y : Int) (w : World) : (Op.equalIn 10000 47 (.agg #[.string s, .int .i64 x, .int .i64 y]) (.agg #[.string s, .int .i64 x, .int .i64 y])).run Tryd.prog w = .ok true w := by
  rw [run_equalIn_agg w 9999 47 _ _ st47 sh47]
  obtain ⟨f0, f1, f2, hf⟩ : ∃ f0 f1 f2, (Tryd.prog.fieldsOf 47).toList = [f0, f1, f2] := by
    have h := congrArg List.length fl47
    rw [List.length_map] at h
    match hq : (Tryd.prog.fieldsOf 47).toList, h with
    | [a, b, c], _ => exact ⟨a, b, c, rfl⟩
  have h := fl47
  rw [hf] at h ⊢
  simp at h
  simp [Op.eqFields, go_sem, h, Tryd.underlying9, Tryd.underlying2]
theorem bal_cells {W : World} {B : Nat} {v : Value} {f g : List UInt8 → Int} {l : List (List UInt8)} {n : Nat} (hn : l.length = n) (h : W.ownsRow B 47 3 v n (balC f g l)) {i : Nat} (hi : i < l.length) : ∃ q c, v = .slice (some ⟨q, 0, none⟩) n c ∧ W.rangeAt q (i * 3) [encStr l[i], .int .i64 (f l[i]), .int .i64 (g l[i])] := by
  rcases h.2 with ⟨_, h2⟩ | ⟨q, cap, cur, e, hB, hh, hc, hm, hcs, ht⟩
  · omega
  · refine ⟨q, cap, e, fun j u hu => ?_⟩
    have hj : j < 3 := by
      have := (List.getElem?_eq_some_iff.1 hu).1
      simpa using this
    have hgen : ∀ (l : List (List UInt8)) (i : Nat) (hi : i < l.length), (balC f g l)[i * 3 + j]? = ([encStr l[i], .int .i64 (f l[i]), .int .i64 (g l[i])] : List Value)[j]? := by
      intro l
      induction l with
      | nil => intro i hi; simp at hi
      | cons x l ih =>
        intro i hi
        have e0 : balC f g (x :: l) = [encStr x, .int .i64 (f x), .int .i64 (g x)] ++ balC f g l := by simp [balC]
        rw [e0]
        cases i with
        | zero =>
          rw [List.getElem?_append_left (by simp; omega)]
          simp
        | succ i =>
          rw [List.getElem?_append_right (by simp; omega)]
          have e1 : (i + 1) * 3 + j - ([encStr x, .int .i64 (f x), .int .i64 (g x)] : List Value).length = i * 3 + j := by simp; omega
          rw [e1, ih i (by simpa using hi)]
          simp
    have h3 := hgen l i hi
    rw [hu] at h3
    have hk2 : (cur.toList.take (n * 3))[i * 3 + j]? = some u := by rw [ht]; exact h3
    rw [List.getElem?_take_of_lt (by omega)] at hk2
    unfold World.cell?
    simp only [hh]
    simpa using hk2
attribute [local go_sem ↓] ld47_is
set_option maxRecDepth 100000 in
set_option maxHeartbeats 4000000 in
theorem same_any {W : World} {B B' : Nat} {v v' : Value} {f g : List UInt8 → Int} {l : List (List UInt8)} {n : Nat} (hn : l.length = n) (hn2 : n ≤ 549755813888) (h : W.ownsRow B 47 3 v n (balC f g l)) (h' : W.ownsRow B' 47 3 v' n (balC f g l)) :
    Calls Tryd.prog 12 #[v, v'] W fun e w' => e = .returned (.bool true) ∧ ∃ m, w' = W.drewN m := by
  obtain ⟨p1, c1, e1⟩ : ∃ p c, v = .slice p n c := by
    rcases h.2 with ⟨e, h2⟩ | ⟨g, cap, cur, e, _⟩
    · exact ⟨none, 0, by rw [e, h2]⟩
    · exact ⟨_, _, e⟩
  obtain ⟨p2, c2, e2⟩ : ∃ p c, v' = .slice p n c := by
    rcases h'.2 with ⟨e, h2⟩ | ⟨g, cap, cur, e, _⟩
    · exact ⟨none, 0, by rw [e, h2]⟩
    · exact ⟨_, _, e⟩
  subst e1 e2
  have H := hide h; have H' := hide h'
  clear h h'
  have hst := st47
  have hsh := sh47
  have heg := eg47
  have heq := eq47_same
  go_enter Tryd.func12, Tryd.ntmps12
  go_wp2_with fail
  go_loopw [5] (fun i wr => ∃ (k m : Nat), i = .int .i64 k ∧ k ≤ n ∧ Hid (wr = W.drewN m)) (fun i _ => n - (intOf i).toNat)
  case atStart => exact ⟨0, 0, rfl, by omega, rfl⟩
  case round =>
    obtain ⟨k, m, rfl, hk, hw⟩ := hrel
    by_cases hlt : k < n
    · have hkl : k < l.length := by omega
      obtain ⟨q1, d1, f1, r1⟩ := bal_cells hn (unhide H) hkl
      obtain ⟨q2, d2, f2, r2⟩ := bal_cells hn (unhide H') hkl
      have g1 : p1 = some ⟨q1, 0, none⟩ := by injection f1
      have g2 : p2 = some ⟨q2, 0, none⟩ := by injection f2
      subst g1 g2
      clear f1 f2
      obtain ⟨s, hs⟩ : ∃ s : ByteArray, s = ⟨(l[k]).toArray⟩ := ⟨_, rfl⟩
      have hse : encStr l[k] = .string s := by rw [hs]
      obtain ⟨x, hx⟩ : ∃ x, x = f l[k] := ⟨_, rfl⟩
      obtain ⟨y, hy⟩ : ∃ y, y = g l[k] := ⟨_, rfl⟩
      rw [hse, ← hx, ← hy] at r1 r2
      have l1 : ∀ d', (ld47 (.pointer (some ⟨q1, k * 3, none⟩))).run Tryd.prog (wr.drewN d') = .ok (.agg #[.string s, .int .i64 x, .int .i64 y]) (wr.drewN d') := fun d' => by
        rw [unhide hw]
        exact run_loadAt_mid (P := Tryd.prog) _ q1 (k * 3) 47 [.string s, .int .i64 x, .int .i64 y] _ r1 Tryd.underlying47 rfl size47
      have l2 : ∀ d', (ld47 (.pointer (some ⟨q2, k * 3, none⟩))).run Tryd.prog (wr.drewN d') = .ok (.agg #[.string s, .int .i64 x, .int .i64 y]) (wr.drewN d') := fun d' => by
        rw [unhide hw]
        exact run_loadAt_mid (P := Tryd.prog) _ q2 (k * 3) 47 [.string s, .int .i64 x, .int .i64 y] _ r2 Tryd.underlying47 rfl size47
      clear r1 r2 hse hs hx hy
      go_wp2_with fail
      go_quiet (fail)
      go_wp2_with fail
      refine ⟨⟨k + 1, m + nq, by simp, by omega, ?_⟩, by simp [intOf]; omega⟩
      show _ = _
      rw [unhide hw, drew_two]
    · have hkn : k = n := by omega
      subst hkn
      go_wp2_with fail
      go_ret
      exact ⟨rfl, m, unhide hw⟩
end Go.Proofs.YtgohddimnphbkaaDoor
