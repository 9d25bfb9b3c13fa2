/- StoreBack: short (4), sameLists (7), an append of bytes. -/
import Derived.Test.YtpeebhddpmggdaaDoorBckN
import Derived.Maps.AppendAt
namespace Go.Proofs.YtpeebhddpmggdaaDoor
open Go Go.RowKit Go.Shelf Go.ChangeShapes Go.WideShapes Go.ChangeAt
set_option linter.unusedVariables false
/-- append(row, bytes...) -/
theorem wpList_append_bytes {w : World} {ops : Array Oper} {rest : List Oper} {o : Oper} {a : Act} {Q : Exit → Act → World → Prop} (hgd : o.guard = none) (s x : Operand)
    (ho : o.op = .call { callee := .builtin .append, args := #[s, x], argTypes := #[23, 23] })
    (base : Nat) (v : Value) (n : Nat) (f : Nat → Nat) (hs : a.eval s = v) (hown : w.ownsRow base 5 1 v n (bcells f n)) (u : Value) (m : Nat) (g : Nat → Nat) (hx : a.eval x = u) (hu : BLies g u m w) (hm : n + m ≤ 140737488351232) (hbase : base ≤ w.heap.size)
    (h : ∀ v' w', w'.ownsRow base 5 1 v' (n + m) (bcells (cat f n g) (n + m)) → w.grownBy w' v.ownBlock → (v'.ownBlock = v.ownBlock ∨ v'.ownBlock = some w.heap.size) → wpList Tryd.prog ops Q rest (a.put o.dst v') w') : wpList Tryd.prog ops Q (o :: rest) a w := by
  obtain ⟨i0, hi, hz0, hz1, hz2⟩ := info_parts info5
  rcases hu with ⟨rfl, rfl⟩ | ⟨b, off, cap, rfl, h2, h3⟩
  · refine wpList_append_own_none hgd s x 23 ho base 5 i0 1 Tryd.underlying23 hi v n _ hs hown hx (h v w ?_ ⟨rfl, rfl, rfl, Nat.le_refl _, fun _ _ _ => rfl⟩ (.inl rfl))
    rw [← bcells_cat, show bcells g 0 = [] from rfl, List.append_nil]
    exact hown
  · refine wpList_append_own_at _ hgd s x 23 ho base 5 i0 (.int .u8 0) 1 1 Tryd.underlying23 hi hz0 hz1 hz2 rfl (by decide) v n _ hs hown ⟨b, off, none⟩ m cap (bcells g m) hx (by rw [bcells_len]; omega) (fun j u hj => ?_) (bcells_one _ _) (by unfold maxLen; omega) (by omega) hbase (fun v' w' h4 h5 _ h6 => h v' w' ?_ h5 h6)
    · obtain ⟨h4, h5⟩ := bcells_get' hj
      rw [h5, Addr.add_mid]
      exact h3 j h4
    · rw [bcells_cat] at h4
      exact h4
theorem lies_ext {f g : Nat → Nat} {v : Value} {n : Nat} {w : World} (h : BLies f v n w) (he : ∀ k, k < n → f k = g k) : BLies g v n w := by
  rcases h with h | ⟨b, off, cap, h1, h2, h3⟩
  · exact .inl h
  · exact .inr ⟨b, off, cap, h1, h2, fun k hk => by rw [← he k hk]; exact h3 k hk⟩
theorem lies_drewN {f : Nat → Nat} {v : Value} {n : Nat} {w : World} (h : BLies f v n w) (d : Nat) : BLies f v n (w.drewN d) := h
/-- what short hands back -/
def ShOut (f : Nat → Nat) (n : Nat) (w : World) (e : Ending) (w' : World) : Prop := ∃ g c, e = .returned (.slice (some ⟨g, 0, none⟩) (min n 2048) c) ∧ w'.ownsRow w.heap.size 5 1 (.slice (some ⟨g, 0, none⟩) (min n 2048) c) (min n 2048) (bcells f (min n 2048)) ∧ Below w.heap.size w w'
theorem row_never_nil {w : World} {base e size n : Nat} {v : Value} {xs : List Value} (h : w.ownsRow base e size v n xs) (hv : v ≠ .slice none 0 0) : ∃ g c, v = .slice (some ⟨g, 0, none⟩) n c := by
  rcases h.2 with ⟨rfl, _⟩ | ⟨g, cap, cur, rfl, _⟩
  · exact absurd rfl hv
  · exact ⟨g, cap, rfl⟩
set_option maxRecDepth 100000 in
set_option maxHeartbeats 4000000 in
theorem short_any (f : Nat → Nat) (pa : Option Addr) (n cap : Nat) (hcap : n ≤ cap) (w : World) (h : BLies f (.slice pa n cap) n w) : Calls Tryd.prog 4 #[.slice pa n cap] w fun e w' => ShOut f n w e w' := by
  obtain ⟨i0, hi, hz0, hz1, hz2⟩ := info_parts info5
  have HI := hide hi; have HZ0 := hide hz0; have HZ1 := hide hz1; have HZ2 := hide hz2
  clear hi hz0 hz1 hz2
  have N2 := hide (World.ownsRow_lit (base := w.heap.size) (e := 5) (size := 1) w #[] 0 (Nat.le_refl _) (by unfold maxLen; omega) rfl)
  rcases h with ⟨rfl, hh⟩ | ⟨b, off, cap', hh, h2, h3⟩
  · simp only [Value.slice.injEq] at hh
    obtain ⟨rfl, _, rfl⟩ := hh
    go_enter Tryd.func4, Tryd.ntmps4
    go_wp2_with (at_builtin; refine wpList_append_own_none rfl _ _ 23 rfl w.heap.size 5 i0 1 Tryd.underlying23 (unhide HI) _ _ _ rfl (unhide N2) rfl ?_)
    go_ret
    exact ⟨w.heap.size, 0, rfl, unhide N2, bal (Below.refl _ _) _⟩
  · simp only [Value.slice.injEq, true_and] at hh
    obtain ⟨rfl, rfl⟩ := hh
    have U := hide (fun o (k : Nat) (hk : k < n) => keep1 (bal (Below.refl w.heap.size w) o) (h2 (by omega)) (h3 k hk))
    by_cases hn : n ≤ 2048
    · have e1 : min n 2048 = n := by omega
      have i1 : ¬ (2048 : Int) < (n : Int) := by omega
      have H2 := hide h2; have H3 := hide h3
      clear h2 h3
      go_enter Tryd.func4, Tryd.ntmps4
      go_wp2_with (at_builtin; refine wpList_append_own_at _ rfl _ _ 23 rfl w.heap.size 5 i0 (.int .u8 0) 1 1 Tryd.underlying23 (unhide HI) (unhide HZ0) (unhide HZ1) (unhide HZ2) rfl (by decide) _ _ _ rfl (unhide N2) ⟨b, off, none⟩ n cap (bcells f n) rfl (by rw [bcells_len]; omega) (fun j u hj => by obtain ⟨h1, h2⟩ := bcells_get' hj; rw [h2, Addr.add_mid]; exact unhide U _ j h1) (bcells_one _ _) (by unfold maxLen; omega) (by omega) (by simp) ?_; intro v4 w4 hown4 hgrow4 hnil4 _; have O4 := hide hown4; have B4 := hide (Below.grown (bal (Below.refl w.heap.size w) _) hgrow4 (by simp) (fun j hj => ((unhide N2).lt j hj).1)); have NL := hide hnil4; clear hown4 hgrow4 hnil4)
      go_ret
      have h := unhide O4
      obtain ⟨g, c, rfl⟩ := row_never_nil h (fun e => by have := ((unhide NL).1 e).1; cases this)
      unfold ShOut
      rw [Nat.zero_add] at h
      rw [e1]
      refine ⟨g, c, ?_, h, unhide B4⟩
      rw [show 0 + n = n from Nat.zero_add n]
      rfl
    · have e1 : min n 2048 = 2048 := by omega
      have i1 : (2048 : Int) < (n : Int) := by omega
      have i2 : (2048 : Int) ≤ (cap : Int) := by omega
      have H2 := hide h2; have H3 := hide h3
      clear h2 h3
      go_enter Tryd.func4, Tryd.ntmps4
      go_wp2_with (at_builtin; refine wpList_append_own_at _ rfl _ _ 23 rfl w.heap.size 5 i0 (.int .u8 0) 1 1 Tryd.underlying23 (unhide HI) (unhide HZ0) (unhide HZ1) (unhide HZ2) rfl (by decide) _ _ _ rfl (unhide N2) ⟨b, off, none⟩ 2048 cap (bcells f 2048) rfl (by rw [bcells_len]) (fun j u hj => by obtain ⟨h1, h2⟩ := bcells_get' hj; rw [h2, Addr.add_mid]; exact unhide U _ j (by omega)) (bcells_one _ _) (by unfold maxLen; omega) (by omega) (by simp) ?_; intro v4 w4 hown4 hgrow4 hnil4 _; have O4 := hide hown4; have B4 := hide (Below.grown (bal (Below.refl w.heap.size w) _) hgrow4 (by simp) (fun j hj => ((unhide N2).lt j hj).1)); have NL := hide hnil4; clear hown4 hgrow4 hnil4)
      go_ret
      have h := unhide O4
      obtain ⟨g, c, rfl⟩ := row_never_nil h (fun e => by have := ((unhide NL).1 e).1; cases this)
      unfold ShOut
      rw [Nat.zero_add] at h
      rw [e1]
      exact ⟨g, c, rfl, h, unhide B4⟩
/-- a slice that shows so many values -/
def VLies (va : Nat → Value) (v : Value) (k : Nat) (W : World) : Prop :=
  (k = 0 ∧ v = .slice none 0 0) ∨ ∃ b off cap, v = .slice (some ⟨b, off, none⟩) k cap ∧ ∀ j, j < k → W.cell? ⟨b, off + j, none⟩ = some (va j)
set_option maxRecDepth 100000 in
set_option maxHeartbeats 4000000 in
theorem same_some (g : Nat → Nat → Nat) (m : Nat → Nat) (k b off ca c d cb : Nat) (hk9 : k ≤ 9223372036854775000) (va vb : Nat → Value) (w : World) (ha : ∀ j, j < k → w.cell? ⟨b, off + j, none⟩ = some (va j)) (hb : ∀ j, j < k → w.cell? ⟨c, d + j, none⟩ = some (vb j))
    (hla : ∀ j, j < k → BLies (g j) (va j) (m j) w) (hlb : ∀ j, j < k → BLies (g j) (vb j) (m j) w) : Calls Tryd.prog 7 #[.slice (some ⟨b, off, none⟩) k ca, .slice (some ⟨c, d, none⟩) k cb] w fun e w' => e = .returned (.bool true) ∧ ∃ n, w' = w.drewN n := by
  have HA := hide ha; have HB := hide hb; have HLA := hide hla; have HLB := hide hlb
  clear ha hb hla hlb
  go_enter Tryd.func7, Tryd.ntmps7
  go_wp2_with fail
  go_loopw [5] (fun v wr => ∃ i : Nat, v = .int .i64 (i : Int) ∧ i ≤ k ∧ ∃ n, wr = w.drewN n) (fun v _ => k - (intOf v).toNat)
  case atStart => exact ⟨0, rfl, by omega, 0, rfl⟩
  case round =>
    obtain ⟨i, rfl, hi, n, hwr⟩ := hrel
    by_cases hik : i < k
    · have i1 : (i : Int) < (k : Int) := by omega
      have i2 : (0 : Int) ≤ (i : Int) := by omega
      have c1 : wr.cell? ⟨b, off + i, none⟩ = some (va i) := by rw [hwr]; exact unhide HA i hik
      have c2 : wr.cell? ⟨c, d + i, none⟩ = some (vb i) := by rw [hwr]; exact unhide HB i hik
      have k1 : ∀ d', (convert 23 9 (va i)).run Tryd.prog (wr.drewN d') = .ok (.string (txtB (g i) (m i))) (wr.drewN d') := fun d' => conv_lies (by rw [hwr]; exact unhide HLA i hik)
      have k2 : ∀ d', (convert 23 9 (vb i)).run Tryd.prog (wr.drewN d') = .ok (.string (txtB (g i) (m i))) (wr.drewN d') := fun d' => conv_lies (by rw [hwr]; exact unhide HLB i hik)
      have HW := hide hwr
      clear hwr
      go_wp2_with fail
      go_quiet (fail)
      all_goals go_wp2_with fail
      exact ⟨⟨i + 1, by go_num, by omega, n + nq, by rw [unhide HW, World.drewN_drewN]⟩, by simp [intOf]; omega⟩
    · have i1 : ¬ (i : Int) < (k : Int) := by omega
      have HW := hide hwr
      clear hwr
      go_wp2_with fail
      go_ret
      exact ⟨rfl, n, unhide HW⟩
set_option maxRecDepth 100000 in
set_option maxHeartbeats 4000000 in
theorem same_none (pa pb : Option Addr) (ca cb : Nat) (w : World) : Calls Tryd.prog 7 #[.slice pa 0 ca, .slice pb 0 cb] w fun e w' => e = .returned (.bool true) ∧ ∃ n, w' = w.drewN n := by
  go_enter Tryd.func7, Tryd.ntmps7
  go_wp2_with fail
  go_loopw [5] (fun v wr => v = .int .i64 0 ∧ wr = w) (fun v _ => 0)
  case atStart => exact ⟨rfl, rfl⟩
  case round =>
    obtain ⟨rfl, rfl⟩ := hrel
    go_wp2_with fail
    go_ret
    exact ⟨rfl, 0, rfl⟩
theorem same_any (g : Nat → Nat → Nat) (m : Nat → Nat) (k : Nat) (hk9 : k ≤ 9223372036854775000) (u v : Value) (va vb : Nat → Value) (w : World) (ha : VLies va u k w) (hb : VLies vb v k w)
    (hla : ∀ j, j < k → BLies (g j) (va j) (m j) w) (hlb : ∀ j, j < k → BLies (g j) (vb j) (m j) w) : Calls Tryd.prog 7 #[u, v] w fun e w' => e = .returned (.bool true) ∧ ∃ n, w' = w.drewN n := by
  rcases ha with ⟨rfl, rfl⟩ | ⟨b, off, ca, rfl, h1⟩
  · rcases hb with ⟨_, rfl⟩ | ⟨c, d, cb, rfl, h2⟩
    · exact same_none _ _ _ _ w
    · exact same_none _ _ _ _ w
  · rcases hb with ⟨rfl, rfl⟩ | ⟨c, d, cb, rfl, h2⟩
    · exact same_none _ _ _ _ w
    · exact same_some g m k b off ca c d cb hk9 va vb w h1 h2 hla hlb
end Go.Proofs.YtpeebhddpmggdaaDoor
