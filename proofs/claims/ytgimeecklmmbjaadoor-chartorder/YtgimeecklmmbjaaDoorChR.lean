/- sameAccounts (11). -/
import Derived.Test.YtgimeecklmmbjaaDoorChQ
import Derived.Laws.StructEq
namespace Go.Proofs.YtgimeecklmmbjaaDoor
open Go Go.Shelf Go.ChangeShapes Go.WideShapes Go.ChangeAt Go.RowKit Go.Maps Go.Sort
set_option linter.unusedVariables false
theorem st41 : Tryd.prog.underlying 41 = some (.struct (Tryd.prog.fieldsOf 41)) := by kernel_rfl
theorem sh41 : Tryd.prog.stoodInHeld 41 = false := by kernel_rfl
theorem eg41 : Tryd.prog.eqGuardType Tryd.prog.depth 41 = false := by kernel_rfl
theorem fl41 : (Tryd.prog.fieldsOf 41).toList.map (fun f => (f.type, f.offset, f.name == "_")) = [(9, 0, false), (3, 1, false), (3, 2, false), (4, 3, false)] := by kernel_rfl
/-- whether two accounts are one -/
def eqB (x y : Ac) : Bool := (x.nm == y.nm) && (x.ty == y.ty) && (x.dy == y.dy) && (x.cl == y.cl)
theorem eqB_self (x : Ac) : eqB x x = true := by simp [eqB]
theorem eq41 (x y : Ac) (w : World) : (Op.equalIn 10000 41 (acV x) (acV y)).run Tryd.prog w = .ok (eqB x y) w := by
  unfold acV
  rw [run_equalIn_agg w 9999 41 _ _ st41 sh41]
  obtain ⟨f0, f1, f2, f3, hf⟩ : ∃ f0 f1 f2 f3, (Tryd.prog.fieldsOf 41).toList = [f0, f1, f2, f3] := by
    have h := congrArg List.length fl41
    rw [List.length_map] at h
    match hq : (Tryd.prog.fieldsOf 41).toList, h with
    | [a, b, c, d], _ => exact ⟨a, b, c, d, rfl⟩
  have h := fl41
  rw [hf] at h ⊢
  simp at h
  by_cases h1 : x.nm = y.nm
  · by_cases h2 : x.ty = y.ty
    · by_cases h3 : x.dy = y.dy
      · cases h4 : x.cl <;> cases h5 : y.cl <;> simp [Op.eqFields, go_sem, h, Tryd.underlying9, Tryd.underlying3, Tryd.underlying4, eqB, h1, h2, h3, h4, h5]
      · simp [Op.eqFields, go_sem, h, Tryd.underlying9, Tryd.underlying3, Tryd.underlying4, eqB, h1, h2, h3]
    · simp [Op.eqFields, go_sem, h, Tryd.underlying9, Tryd.underlying3, Tryd.underlying4, eqB, h1, h2]
  · simp [Op.eqFields, go_sem, h, Tryd.underlying9, Tryd.underlying3, Tryd.underlying4, eqB, h1]
/-- whether two lists of accounts are alike -/
def sameB : List Ac → List Ac → Bool
  | [], [] => true
  | a :: l, b :: m => eqB a b && sameB l m
  | _, _ => false
theorem sameB_self : ∀ l : List Ac, sameB l l = true
  | [] => rfl
  | a :: l => by rw [sameB, eqB_self, sameB_self l]; rfl
theorem sameB_len : ∀ {l m : List Ac}, l.length ≠ m.length → sameB l m = false
  | [], [], h => absurd rfl h
  | [], b :: m, _ => rfl
  | a :: l, [], _ => rfl
  | a :: l, b :: m, h => by rw [sameB, sameB_len (by simpa using h)]; simp
theorem sameB_at : ∀ {l m : List Ac}, l.length = m.length → ∀ (k : Nat) (h1 : k < l.length) (h2 : k < m.length), eqB l[k] m[k] = false → sameB l m = false
  | [], _, _, k, h1, _, _ => by simp at h1
  | _ :: _, [], h, _, _, _, _ => by simp at h
  | a :: l, b :: m, h, 0, h1, h2, he => by
    have he' : eqB a b = false := he
    rw [sameB, he']
    rfl
  | a :: l, b :: m, h, k + 1, h1, h2, he => by
    rw [sameB, sameB_at (by simpa using h) k (by simpa using h1) (by simpa using h2) he]
    simp
theorem sameB_all : ∀ {l m : List Ac}, l.length = m.length → (∀ (k : Nat) (h1 : k < l.length) (h2 : k < m.length), eqB l[k] m[k] = true) → sameB l m = true
  | [], [], _, _ => rfl
  | [], _ :: _, h, _ => by simp at h
  | _ :: _, [], h, _ => by simp at h
  | a :: l, b :: m, h, he => by
    have h0 : eqB a b = true := he 0 (by simp) (by simp)
    rw [sameB, h0, sameB_all (by simpa using h) (fun k h1 h2 => he (k + 1) (by simpa using h1) (by simpa using h2))]
    rfl
theorem lies_ld {W : World} {p : Option Addr} {l : List Ac} (h : Lies kA W p l) {k : Nat} (hk : k < l.length) : ∃ b off, p = some ⟨b, off, none⟩ ∧ ∀ d', (ld41 (.pointer (some ⟨b, off + k * 4, none⟩))).run Tryd.prog (W.drewN d') = .ok (acV l[k]) (W.drewN d') := by
  obtain ⟨b, off, hp, hbW, hc⟩ := h.2 k hk
  exact ⟨b, off, hp, fun d' => run_ld41 (w := W.drewN d') (fun j v hv => hc j v hv)⟩
section
attribute [local go_sem ↓] ld41_is
set_option maxRecDepth 100000 in
set_option maxHeartbeats 4000000 in
theorem same_any {W : World} {p1 p2 : Option Addr} {n1 n2 c1 c2 : Nat} {l m : List Ac} (h1 : l.length = n1) (h2 : m.length = n2) (hn : n1 ≤ 2305843009213693951) (H1 : Lies kA W p1 l) (H2 : Lies kA W p2 m) :
    Calls Tryd.prog 11 #[.slice p1 n1 c1, .slice p2 n2 c2] W fun e w' => e = .returned (.bool (sameB l m)) ∧ ∃ d, w' = W.drewN d := by
  obtain ⟨R, hR⟩ : ∃ R, R = sameB l m := ⟨_, rfl⟩
  rw [← hR]
  by_cases hne : n1 = n2
  · subst hne
    have HH1 := hide H1; have HH2 := hide H2; have HL1 := hide h1; have HL2 := hide h2; have HR := hide hR
    clear H1 H2 h1 h2 hR
    have hst := st41
    have hsh := sh41
    have heg := eg41
    have heq := eq41
    go_enter Tryd.func11, Tryd.ntmps11
    go_wp2_with fail
    go_loopw [5] (fun i wr => ∃ (k d : Nat), i = .int .i64 k ∧ k ≤ n1 ∧ Hid (wr = W.drewN d) ∧ Hid (∀ (j : Nat) (g1 : j < l.length) (g2 : j < m.length), j < k → eqB l[j] m[j] = true)) (fun i _ => n1 - (intOf' i).toNat)
    case atStart => exact ⟨0, 0, rfl, by omega, rfl, fun j _ _ hj => by omega⟩
    case round =>
      obtain ⟨k, d, rfl, hk, hw, hall⟩ := hrel
      by_cases hlt : k < n1
      · have k1 : k < l.length := by rw [unhide HL1]; exact hlt
        have k2 : k < m.length := by rw [unhide HL2]; exact hlt
        obtain ⟨b1, o1, e1, r1⟩ := lies_ld (unhide HH1) k1
        obtain ⟨b2, o2, e2, r2⟩ := lies_ld (unhide HH2) k2
        subst e1 e2
        obtain ⟨x, hx⟩ : ∃ x, x = l[k] := ⟨_, rfl⟩
        obtain ⟨y, hy⟩ : ∃ y, y = m[k] := ⟨_, rfl⟩
        rw [← hx] at r1
        rw [← hy] at r2
        have l1 : ∀ d', (ld41 (.pointer (some ⟨b1, o1 + k * 4, none⟩))).run Tryd.prog (wr.drewN d') = .ok (acV x) (wr.drewN d') := fun d' => by rw [unhide hw, drew_two]; exact r1 _
        have l2 : ∀ d', (ld41 (.pointer (some ⟨b2, o2 + k * 4, none⟩))).run Tryd.prog (wr.drewN d') = .ok (acV y) (wr.drewN d') := fun d' => by rw [unhide hw, drew_two]; exact r2 _
        have HX := hide hx; have HYY := hide hy
        clear r1 r2 hx hy
        have hwk : IntKind.i64.wrap ((k : Int) + 1) = (k : Int) + 1 := wrapI (by omega) (by omega)
        cases hb : eqB x y with
        | true =>
          have hb2 : ∀ w, (Op.equalIn 10000 41 (acV x) (acV y)).run Tryd.prog w = .ok true w := fun w => by rw [heq, hb]
          have HB := hide hb
          unfold acV at l1 l2 hb2
          clear hb heq
          go_wp2_with fail
          go_quiet (fail)
          go_wp2_with fail
          refine ⟨⟨k + 1, d + nq, by simp, by omega, ?_, fun j g1 g2 hj => ?_⟩, by simp [intOf']; omega⟩
          · show _ = _
            rw [unhide hw, drew_two]
          · by_cases e : j = k
            · subst e
              rw [← unhide HX, ← unhide HYY]
              exact unhide HB
            · exact unhide hall j g1 g2 (by omega)
        | false =>
          have hb2 : ∀ w, (Op.equalIn 10000 41 (acV x) (acV y)).run Tryd.prog w = .ok false w := fun w => by rw [heq, hb]
          have hRf : R = false := by
            rw [unhide HR]
            exact sameB_at (by rw [unhide HL1, unhide HL2]) k k1 k2 (by rw [← unhide HX, ← unhide HYY]; exact hb)
          subst hRf
          unfold acV at l1 l2 hb2
          clear hb heq
          go_wp2_with fail
          go_quiet (fail)
          go_wp2_with fail
          go_ret
          exact ⟨rfl, d + nq, by rw [unhide hw, drew_two]⟩
      · have hkn : k = n1 := by omega
        subst hkn
        have hRt : R = true := by
          rw [unhide HR]
          exact sameB_all (by rw [unhide HL1, unhide HL2]) (fun j g1 g2 => unhide hall j g1 g2 (by rw [unhide HL1] at g1; exact g1))
        subst hRt
        go_wp2_with fail
        go_ret
        exact ⟨rfl, d, unhide hw⟩
  · have hne3 : ¬ ((n1 : Int) = (n2 : Int)) := by omega
    have hne2 : ((n1 : Int) == (n2 : Int)) = false := by simpa using hne3
    have hRf : R = false := by rw [hR]; exact sameB_len (by omega)
    subst hRf
    clear hR H1 H2
    go_enter Tryd.func11, Tryd.ntmps11
    go_wp2
    go_ret
    exact ⟨rfl, 0, rfl⟩
end
end Go.Proofs.YtgimeecklmmbjaaDoor
