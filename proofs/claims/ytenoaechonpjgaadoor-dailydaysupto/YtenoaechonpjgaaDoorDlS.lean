/- daily: series in memory; sort.Search (37), ahead (27, 39), upTo (25, 38), balance (24). -/
import Derived.Test.YtenoaechonpjgaaDoorDlN
import Derived.Test.YtenoaechonpjgaaDoorRowT
import Derived.Shelf.Abstract
namespace Go.Proofs.YtenoaechonpjgaaDoor
open Go Go.Shelf Go.ChangeShapes Go.WideShapes Go.ChangeAt Go.RowKit Go.Maps
set_option linter.unusedVariables false
def mvals (m : Mk) : List Value := [.int .i64 m.1, .int .i64 m.2.1, .int .i64 m.2.2]
/-- marks that lie somewhere -/
def MksAt (W : World) (p : Option Addr) (S : List Mk) : Prop :=
  (p = none → S = []) ∧ ∀ k (hk : k < S.length), ∃ b off, p = some ⟨b, off, none⟩ ∧ b < W.heap.size ∧ W.rangeAt b (off + k * 3) (mvals S[k])
theorem MksAt.drewN {W : World} {p : Option Addr} {S : List Mk} (h : MksAt W p S) (m : Nat) : MksAt (W.drewN m) p S :=
  ⟨h.1, fun k hk => by
    obtain ⟨b, off, e, hlt, hr⟩ := h.2 k hk
    exact ⟨b, off, e, by simpa using hlt, fun j u hu => by simpa using hr j u hu⟩⟩
theorem MksAt.below {W W' : World} {p : Option Addr} {S : List Mk} (h : MksAt W p S) (hb : Below W.heap.size W W') : MksAt W' p S := by
  refine ⟨h.1, fun k hk => ?_⟩
  obtain ⟨b, off, e, hlt, hr⟩ := h.2 k hk
  exact ⟨b, off, e, Nat.lt_of_lt_of_le hlt hb.size, fun j u hu => (hb.cell (p := ⟨b, off + k * 3 + j, none⟩) hlt).trans (hr j u hu)⟩
set_option maxRecDepth 100000 in
set_option maxHeartbeats 4000000 in
theorem search_any (g : Nat) (v1 v2 : Value) (eg : ∀ args w, (callFunc g args).run Tryd.prog w = .ok (.enter g args) w) (n : Nat) (hn : n ≤ 4611686018427387904) (P : Nat → Bool) (hm : ∀ i j, i ≤ j → j < n → P i = true → P j = true) (w : World)
    (hc : ∀ m k, k < n → Calls Tryd.prog g #[.int .i64 k, v1, v2] (w.drewN m) fun e w' => e = .returned (.bool (P k)) ∧ ∃ m', w' = w.drewN m') :
    Calls Tryd.prog 37 #[.int .i64 n, .func (.func g) #[] #[v1, v2]] w fun e w' => ∃ r m : Nat, e = .returned (.int .i64 r) ∧ r ≤ n ∧ (∀ k, k < r → P k = false) ∧ (∀ k, r ≤ k → k < n → P k = true) ∧ w' = w.drewN m := by
  have HC := hide hc; have HM := hide hm
  clear hc hm
  go_enter Tryd.func37, Tryd.ntmps37
  go_wp2_with fail
  go_loopw [5, 6] (fun v5 v6 wr => ∃ (i j m : Nat), v5 = .int .i64 i ∧ v6 = .int .i64 j ∧ i ≤ j ∧ j ≤ n ∧ wr = w.drewN m ∧ Hid ((∀ k, k < i → P k = false) ∧ (∀ k, j ≤ k → k < n → P k = true))) (fun v5 v6 _ => (intOf v6 - intOf v5).toNat)
  case atStart => exact ⟨0, n, 0, rfl, rfl, by omega, by omega, rfl, fun k h => by omega, fun k h1 h2 => by omega⟩
  case round =>
    obtain ⟨i, j, m, rfl, rfl, hij, hjn, hwr, hinv⟩ := hrel
    by_cases hlt : i < j
    · rw [hwr]
      clear hwr
      obtain ⟨h, hh⟩ : ∃ h : Nat, ((i : Int) + j) / 2 = h := ⟨(i + j) / 2, by omega⟩
      have hcl := unhide HC m h (by omega)
      have hmm := unhide HM
      have hI := unhide hinv
      have e1 : P h = false → ∀ k, k < h + 1 → P k = false := fun hf k hk => by
        cases hpk : P k
        · rfl
        · have := hmm k h (by omega) (by omega) hpk
          rw [hf] at this
          cases this
      have e2 : P h = true → ∀ k, h ≤ k → k < n → P k = true := fun ht k hk hkn => hmm h k hk hkn ht
      have E1 := hide e1; have E2 := hide e2; have HCL := hide hcl
      clear e1 e2 hmm hI hcl
      go_wp2_with fail
      refine (unhide HCL).mono ?_
      rintro e w' ⟨rfl, m', rfl⟩
      have hh1 : (i : Int) ≤ h ∧ (h : Int) < j := by omega
      clear HCL hh
      cases hp : P h
      · have I2 := hide (And.intro (unhide E1 hp) (unhide hinv).2)
        go_wp2_with fail
        refine ⟨⟨h + 1, j, m', by simp, rfl, by omega, hjn, rfl, unhide I2⟩, by simp [intOf]; omega⟩
      · have I2 := hide (And.intro (unhide hinv).1 (unhide E2 hp))
        go_wp2_with fail
        refine ⟨⟨i, h, m', rfl, rfl, by omega, by omega, rfl, unhide I2⟩, by simp [intOf]; omega⟩
    · have e : i = j := by omega
      subst e
      rw [hwr]
      clear hwr
      go_wp2_with fail
      go_ret
      exact ⟨i, m, rfl, hjn, (unhide hinv).1, (unhide hinv).2, rfl⟩
/-- a mark's day, read by a closure -/
def dayOf (S : List Mk) (k : Nat) : Int := (S.getD k (0, 0, 0)).1
theorem dayOf_lt {S : List Mk} {k : Nat} (hk : k < S.length) : dayOf S k = (S[k]).1 := by simp [dayOf, List.getD, hk]
set_option maxRecDepth 100000 in
set_option maxHeartbeats 4000000 in
theorem ahead_cl (S : List Mk) (p : Option Addr) (c : Nat) (day : Int) (b1 b2 k : Nat) (hk : k < S.length) (w : World) (hS : MksAt w p S) (h1 : w.cell? ⟨b1, 0, none⟩ = some (.slice p S.length c)) (h2 : w.cell? ⟨b2, 0, none⟩ = some (.int .i64 day)) :
    Calls Tryd.prog 39 #[.int .i64 k, .pointer (some ⟨b1, 0, none⟩), .pointer (some ⟨b2, 0, none⟩)] w fun e w' => e = .returned (.bool (decide (dayOf S k ≥ day))) ∧ ∃ m', w' = w.drewN m' := by
  obtain ⟨b, off, e, hlt, hr⟩ := hS.2 k hk
  rw [dayOf_lt hk]
  obtain ⟨N, hN⟩ : ∃ N, N = S.length := ⟨_, rfl⟩
  obtain ⟨D, hD⟩ : ∃ D, D = (S[k]).1 := ⟨_, rfl⟩
  have hc : w.cell? ⟨b, off + k * 3, none⟩ = some (.int .i64 D) := by rw [hD]; exact hr 0 _ rfl
  rw [← hN] at h1 hk
  rw [← hD]
  subst e
  clear hr hS hN hD
  go_enter Tryd.func39, Tryd.ntmps39
  go_wp2_with fail
  go_quiet (fail)
  go_wp2_with fail
  go_ret
  exact ⟨rfl, _, rfl⟩
set_option maxRecDepth 100000 in
set_option maxHeartbeats 4000000 in
theorem upto_cl (S : List Mk) (p : Option Addr) (c : Nat) (day : Int) (b1 b2 k : Nat) (hk : k < S.length) (w : World) (hS : MksAt w p S) (h1 : w.cell? ⟨b1, 0, none⟩ = some (.slice p S.length c)) (h2 : w.cell? ⟨b2, 0, none⟩ = some (.int .i64 day)) :
    Calls Tryd.prog 38 #[.int .i64 k, .pointer (some ⟨b1, 0, none⟩), .pointer (some ⟨b2, 0, none⟩)] w fun e w' => e = .returned (.bool (decide (dayOf S k > day))) ∧ ∃ m', w' = w.drewN m' := by
  obtain ⟨b, off, e, hlt, hr⟩ := hS.2 k hk
  rw [dayOf_lt hk]
  obtain ⟨N, hN⟩ : ∃ N, N = S.length := ⟨_, rfl⟩
  obtain ⟨D, hD⟩ : ∃ D, D = (S[k]).1 := ⟨_, rfl⟩
  have hc : w.cell? ⟨b, off + k * 3, none⟩ = some (.int .i64 D) := by rw [hD]; exact hr 0 _ rfl
  rw [← hN] at h1 hk
  rw [← hD]
  subst e
  clear hr hS hN hD
  go_enter Tryd.func38, Tryd.ntmps38
  go_wp2_with fail
  go_quiet (fail)
  go_wp2_with fail
  go_ret
  exact ⟨rfl, _, rfl⟩
theorem up_day {S : List Mk} (hu : S.Pairwise fun a b => a.1 < b.1) {i j : Nat} (hij : i ≤ j) (hj : j < S.length) : dayOf S i ≤ dayOf S j := by
  rw [dayOf_lt hj, dayOf_lt (by omega)]
  by_cases e : i = j
  · subst e; exact Int.le_refl _
  · exact Int.le_of_lt (List.pairwise_iff_getElem.1 hu i j (by omega) hj (by omega))
set_option maxRecDepth 100000 in
set_option maxHeartbeats 4000000 in
theorem ahead_any (S : List Mk) (hu : S.Pairwise fun a b => a.1 < b.1) (hl : S.length ≤ 4611686018427387904) (p : Option Addr) (c : Nat) (day : Int) (w : World) (hS : MksAt w p S) :
    Calls Tryd.prog 27 #[.slice p S.length c, .int .i64 day] w fun e w' => ∃ r : Nat, e = .returned (.int .i64 r) ∧ r ≤ S.length ∧ (∀ k, k < r → dayOf S k < day) ∧ (∀ k, r ≤ k → k < S.length → dayOf S k ≥ day) ∧ Below w.heap.size w w' := by
  have eg : ∀ args w, (callFunc 39 args).run Tryd.prog w = .ok (.enter 39 args) w := enters_of Tryd.func39 (by kernel_rfl) rfl
  obtain ⟨W, hW⟩ : ∃ W, W = (w.alloc (.cells #[.slice p S.length c] 55)).alloc (.cells #[.int .i64 day] 3) := ⟨_, rfl⟩
  have hbW : Below w.heap.size w W := by rw [hW]; exact bal (bal (Below.refl _ _) _) _
  have hc1 : W.cell? ⟨w.heap.size, 0, none⟩ = some (.slice p S.length c) := by
    rw [hW, World.cell?_alloc_lt _ _ _ (by simp), World.cell?_alloc_mark]; rfl
  have hc2 : W.cell? ⟨w.heap.size + 1, 0, none⟩ = some (.int .i64 day) := by
    have e : w.heap.size + 1 = (w.alloc (.cells #[.slice p S.length c] 55)).heap.size := by simp
    rw [hW, e, World.cell?_alloc_mark]; rfl
  have hSW := hS.below hbW
  have dS := hide (search_any 39 (.pointer (some ⟨w.heap.size, 0, none⟩)) (.pointer (some ⟨w.heap.size + 1, 0, none⟩)) eg S.length hl (fun k => decide (dayOf S k ≥ day)) (fun i j hij hj h => by
    have h1 := up_day hu hij hj
    have h2 := of_decide_eq_true h
    exact decide_eq_true (by omega)) W (fun m k hk => (ahead_cl S p c day w.heap.size (w.heap.size + 1) k hk (W.drewN m) (hSW.drewN m) (by simpa using hc1) (by simpa using hc2)).mono (fun e w' ⟨h1, m', h2⟩ => ⟨h1, m + m', by rw [h2]; simp⟩)))
  obtain ⟨N, hN⟩ : ∃ N, N = S.length := ⟨_, rfl⟩
  have HBW := hide hbW
  rw [← hN] at dS hW ⊢
  have hcN : W.cell? ⟨w.heap.size, 0, none⟩ = some (.slice p N c) := by rw [hN]; exact hc1
  clear hbW hc1 hSW hS eg hN hu hl
  subst hW
  go_enter Tryd.func27, Tryd.ntmps27
  go_wp2_with fail
  refine (unhide dS).mono ?_
  rintro e w' ⟨r, m, rfl, hr, h1, h2, hw⟩
  have HB : Hid (Below w.heap.size w w') := by rw [hw]; exact below_drewN (unhide HBW) m
  have HH : Hid ((∀ k, k < r → dayOf S k < day) ∧ (∀ k, r ≤ k → k < N → dayOf S k ≥ day)) := ⟨fun k hk => by have := of_decide_eq_false (h1 k hk); omega, fun k hk hn => of_decide_eq_true (h2 k hk hn)⟩
  clear h1 h2 hw
  go_wp2_with fail
  go_ret
  exact ⟨r, rfl, hr, (unhide HH).1, (unhide HH).2, unhide HB⟩
set_option maxRecDepth 100000 in
set_option maxHeartbeats 4000000 in
theorem upto_any (S : List Mk) (hu : S.Pairwise fun a b => a.1 < b.1) (hl : S.length ≤ 4611686018427387904) (p : Option Addr) (c : Nat) (day : Int) (w : World) (hS : MksAt w p S) :
    Calls Tryd.prog 25 #[.slice p S.length c, .int .i64 day] w fun e w' => ∃ r : Nat, e = .returned (.int .i64 r) ∧ r ≤ S.length ∧ (∀ k, k < r → dayOf S k ≤ day) ∧ (∀ k, r ≤ k → k < S.length → dayOf S k > day) ∧ Below w.heap.size w w' := by
  have eg : ∀ args w, (callFunc 38 args).run Tryd.prog w = .ok (.enter 38 args) w := enters_of Tryd.func38 (by kernel_rfl) rfl
  obtain ⟨W, hW⟩ : ∃ W, W = (w.alloc (.cells #[.slice p S.length c] 55)).alloc (.cells #[.int .i64 day] 3) := ⟨_, rfl⟩
  have hbW : Below w.heap.size w W := by rw [hW]; exact bal (bal (Below.refl _ _) _) _
  have hc1 : W.cell? ⟨w.heap.size, 0, none⟩ = some (.slice p S.length c) := by
    rw [hW, World.cell?_alloc_lt _ _ _ (by simp), World.cell?_alloc_mark]; rfl
  have hc2 : W.cell? ⟨w.heap.size + 1, 0, none⟩ = some (.int .i64 day) := by
    have e : w.heap.size + 1 = (w.alloc (.cells #[.slice p S.length c] 55)).heap.size := by simp
    rw [hW, e, World.cell?_alloc_mark]; rfl
  have hSW := hS.below hbW
  have dS := hide (search_any 38 (.pointer (some ⟨w.heap.size, 0, none⟩)) (.pointer (some ⟨w.heap.size + 1, 0, none⟩)) eg S.length hl (fun k => decide (dayOf S k > day)) (fun i j hij hj h => by
    have h1 := up_day hu hij hj
    have h2 := of_decide_eq_true h
    exact decide_eq_true (by omega)) W (fun m k hk => (upto_cl S p c day w.heap.size (w.heap.size + 1) k hk (W.drewN m) (hSW.drewN m) (by simpa using hc1) (by simpa using hc2)).mono (fun e w' ⟨h1, m', h2⟩ => ⟨h1, m + m', by rw [h2]; simp⟩)))
  obtain ⟨N, hN⟩ : ∃ N, N = S.length := ⟨_, rfl⟩
  have HBW := hide hbW
  rw [← hN] at dS hW ⊢
  have hcN : W.cell? ⟨w.heap.size, 0, none⟩ = some (.slice p N c) := by rw [hN]; exact hc1
  clear hbW hc1 hSW hS eg hN hu hl
  subst hW
  go_enter Tryd.func25, Tryd.ntmps25
  go_wp2_with fail
  refine (unhide dS).mono ?_
  rintro e w' ⟨r, m, rfl, hr, h1, h2, hw⟩
  have HB : Hid (Below w.heap.size w w') := by rw [hw]; exact below_drewN (unhide HBW) m
  have HH : Hid ((∀ k, k < r → dayOf S k ≤ day) ∧ (∀ k, r ≤ k → k < N → dayOf S k > day)) := ⟨fun k hk => by have := of_decide_eq_false (h1 k hk); omega, fun k hk hn => of_decide_eq_true (h2 k hk hn)⟩
  clear h1 h2 hw
  go_wp2_with fail
  go_ret
  exact ⟨r, rfl, hr, (unhide HH).1, (unhide HH).2, unhide HB⟩
set_option maxRecDepth 100000 in
theorem blc_any (S : List Mk) (p : Option Addr) (c n : Nat) (hn : n ≤ S.length) (hl : S.length ≤ 4611686018427387904) (w : World) (hS : MksAt w p S) :
    Calls Tryd.prog 24 #[.slice p S.length c, .int .i64 n] w fun e w' => e = .returned (.int .i64 (if n = 0 then 0 else (S.getD (n - 1) (0, 0, 0)).2.2)) ∧ w' = w := by
  obtain ⟨N, hN⟩ : ∃ N, N = S.length := ⟨_, rfl⟩
  by_cases h0 : n = 0
  · subst h0
    rw [if_pos rfl]
    clear hS hn
    go_enter Tryd.func24, Tryd.ntmps24
    go_wp2_with fail
    go_ret
    exact ⟨rfl, rfl⟩
  · have hk : n - 1 < S.length := by omega
    rw [if_neg h0]
    obtain ⟨b, off, e, hlt, hr⟩ := hS.2 (n - 1) hk
    have eg : S.getD (n - 1) (0, 0, 0) = S[n - 1] := by simp [List.getD, hk]
    rw [eg]
    obtain ⟨D, hD⟩ : ∃ D, D = (S[n - 1]).2.2 := ⟨_, rfl⟩
    have hc : w.cell? ⟨b, off + (n - 1) * 3 + 2, none⟩ = some (.int .i64 D) := by rw [hD]; exact hr 2 _ rfl
    rw [← hD]
    rw [← hN] at hk hn hl ⊢
    subst e
    obtain ⟨k, rfl⟩ : ∃ k, n = k + 1 := ⟨n - 1, by omega⟩
    rw [Nat.add_sub_cancel] at hc hk
    clear hr hS hN hD eg
    go_enter Tryd.func24, Tryd.ntmps24
    go_wp2_with fail
    go_ret
    exact ⟨rfl, rfl⟩
end Go.Proofs.YtenoaechonpjgaaDoor
